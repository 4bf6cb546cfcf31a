/-
  What a watch shares: the document's.
-/
import Derived.Test.YtcenlgfopmahcaaGreatDoorPkHeadsOwn
import Derived.Test.YtcenlgfopmahcaaGreatDoorPkImplShares
import Derived.Test.YtcenlgfopmahcaaGreatDoorPkSpecWRV
import Derived.Test.YtcenlgfopmahcaaGreatDoorPkHdV
import Derived.Test.YtcenlgfopmahcaaGreatDoorPkCopyHead
namespace Go.Proofs.YtcenlgfopmahcaaGreatDoor
open Go.RowKit Go.Lib
set_option linter.unusedVariables false
set_option linter.unusedSimpArgs false

/-- The answer can be read. -/
def SharesIn (ls : List Hd) (w : World) (e : Ending) (w' : World) : Prop :=
  ∃ v l', e = .returned v ∧ Heads w' w'.heap.size v l' ∧ l'.map Hv.x = ls ∧ Below w.heap.size w w'

set_option maxHeartbeats 4000000 in
set_option maxRecDepth 10000 in
theorem specShares_any (t : Wt) (l : List Hv) (v0 v1 v2 vp v3 v4 v5 v6 v7 : Value) (w : World) (hi : t.In v0 v1 v2 v3 v4 v5 v6 v7 w w.heap.size) (hh : Heads w w.heap.size vp l) (hf : t.Lens) (hl : HdsLim l) (hn : t.Nums) (hnl : HdsNum l) :
    Calls Tryz.prog 5 #[.agg #[.string t.log, .string t.key, v0, .string t.h.log, .int .i64 t.h.size, .string t.h.root, .int .i64 t.h.time, .int .i64 t.h.k, v1, v2, vp, .bool t.found, .string t.a.log, .int .i64 t.a.size, .string t.a.root, .int .i64 t.a.time, .int .i64 t.a.k, v3, v4, .string t.b.log, .int .i64 t.b.size, .string t.b.root, .int .i64 t.b.time, .int .i64 t.b.k, v5, v6, v7]] w (SharesIn (shareL t l) w) := by
  obtain ⟨a0, c0, rfl, z0⟩ := id hi.1
  obtain ⟨a1, c1, a2, c2, rfl, rfl⟩ := hi.2.1.parts
  obtain ⟨⟨ap, cp, rfl, hcap, hc⟩, hin⟩ := id hh
  obtain ⟨a3, c3, a4, c4, rfl, rfl⟩ := hi.2.2.1.parts
  obtain ⟨a5, c5, a6, c6, rfl, rfl⟩ := hi.2.2.2.1.parts
  obtain ⟨a7, c7, rfl, z7⟩ := id hi.2.2.2.2
  clear z0 z7
  obtain ⟨W, hW⟩ : ∃ W, W = w.alloc (.cells #[.string t.log, .string t.key, .slice a0 t.en.length c0, .string t.h.log, .int .i64 t.h.size, .string t.h.root, .int .i64 t.h.time, .int .i64 t.h.k, .slice a1 t.h.el.length c1, .slice a2 t.h.pl.length c2, .slice ap l.length cp, .bool t.found, .string t.a.log, .int .i64 t.a.size, .string t.a.root, .int .i64 t.a.time, .int .i64 t.a.k, .slice a3 t.a.el.length c3, .slice a4 t.a.pl.length c4, .string t.b.log, .int .i64 t.b.size, .string t.b.root, .int .i64 t.b.time, .int .i64 t.b.k, .slice a5 t.b.el.length c5, .slice a6 t.b.pl.length c6, .slice a7 t.fl.length c7] 41) := ⟨_, rfl⟩
  have hbW : Below w.heap.size w W := by rw [hW]; exact (Below.refl _ _).alloc (Nat.le_refl _) _
  have k0 : W.heap[w.heap.size]? = some (.cells #[.string t.log, .string t.key, .slice a0 t.en.length c0, .string t.h.log, .int .i64 t.h.size, .string t.h.root, .int .i64 t.h.time, .int .i64 t.h.k, .slice a1 t.h.el.length c1, .slice a2 t.h.pl.length c2, .slice ap l.length cp, .bool t.found, .string t.a.log, .int .i64 t.a.size, .string t.a.root, .int .i64 t.a.time, .int .i64 t.a.k, .slice a3 t.a.el.length c3, .slice a4 t.a.pl.length c4, .string t.b.log, .int .i64 t.b.size, .string t.b.root, .int .i64 t.b.time, .int .i64 t.b.k, .slice a5 t.b.el.length c5, .slice a6 t.b.pl.length c6, .slice a7 t.fl.length c7] 41 (0, 0)) := by rw [hW]; exact heap_alloc_new w _
  have hlt0 := (Array.getElem?_eq_some_iff.1 k0).1
  have E1 : Hid (∀ X, Below W.heap.size W X → Calls Tryz.prog 17 #[.agg #[.string t.log, .string t.key, .slice a0 t.en.length c0, .string t.h.log, .int .i64 t.h.size, .string t.h.root, .int .i64 t.h.time, .int .i64 t.h.k, .slice a1 t.h.el.length c1, .slice a2 t.h.pl.length c2, .slice ap l.length cp, .bool t.found, .string t.a.log, .int .i64 t.a.size, .string t.a.root, .int .i64 t.a.time, .int .i64 t.a.k, .slice a3 t.a.el.length c3, .slice a4 t.a.pl.length c4, .string t.b.log, .int .i64 t.b.size, .string t.b.root, .int .i64 t.b.time, .int .i64 t.b.k, .slice a5 t.b.el.length c5, .slice a6 t.b.pl.length c6, .slice a7 t.fl.length c7]] X fun e w' => e = .returned (.bool (t.rightB l)) ∧ Below X.heap.size X w') := fun X q => specWatchRight_any t l _ _ _ _ _ _ _ _ _ X ((hi.on hbW).on q) ((hh.on hbW).on q) hf hl hn hnl
  have E2 : Hid (∀ X, Below W.heap.size W X → Calls Tryz.prog 18 #[.agg #[.string t.log, .string t.key, .slice a0 t.en.length c0, .string t.h.log, .int .i64 t.h.size, .string t.h.root, .int .i64 t.h.time, .int .i64 t.h.k, .slice a1 t.h.el.length c1, .slice a2 t.h.pl.length c2, .slice ap l.length cp, .bool t.found, .string t.a.log, .int .i64 t.a.size, .string t.a.root, .int .i64 t.a.time, .int .i64 t.a.k, .slice a3 t.a.el.length c3, .slice a4 t.a.pl.length c4, .string t.b.log, .int .i64 t.b.size, .string t.b.root, .int .i64 t.b.time, .int .i64 t.b.k, .slice a5 t.b.el.length c5, .slice a6 t.b.pl.length c6, .slice a7 t.fl.length c7]] X (WCp t l X)) := fun X q => specWCopy_any t l _ _ _ _ _ _ _ _ _ X ((hi.on hbW).on q) ((hh.on hbW).on q) hf hl
  have E3 : Hid (∀ (u1 u2 : Option Addr) (m1 m2 : Nat) X, Calls Tryz.prog 19 #[.agg #[.string t.h.log, .int .i64 t.h.size, .string t.h.root, .int .i64 t.h.time, .int .i64 t.h.k, .slice u1 t.h.el.length m1, .slice u2 t.h.pl.length m2]] X fun e w' => e = .returned (.bool (zeroX t.h t.h.el.length t.h.pl.length)) ∧ Below X.heap.size X w') := fun u1 u2 m1 m2 X => specZero_any _ _ _ _ _ _ _ _ _ _ _ X
  have HC : Hid (∀ X, Below W.heap.size W X → X.heap[w.heap.size]? = some (.cells #[.string t.log, .string t.key, .slice a0 t.en.length c0, .string t.h.log, .int .i64 t.h.size, .string t.h.root, .int .i64 t.h.time, .int .i64 t.h.k, .slice a1 t.h.el.length c1, .slice a2 t.h.pl.length c2, .slice ap l.length cp, .bool t.found, .string t.a.log, .int .i64 t.a.size, .string t.a.root, .int .i64 t.a.time, .int .i64 t.a.k, .slice a3 t.a.el.length c3, .slice a4 t.a.pl.length c4, .string t.b.log, .int .i64 t.b.size, .string t.b.root, .int .i64 t.b.time, .int .i64 t.b.k, .slice a5 t.b.el.length c5, .slice a6 t.b.pl.length c6, .slice a7 t.fl.length c7] 41 (0, 0))) := fun X q => (q.block _ hlt0).trans k0
  have HLN : Hid (l.length ≤ 1048576 ∧ (t.rightB l = true → l.length ≤ 5)) := ⟨hl.1, fun h => (Wt.rightB_pool h).1⟩
  have H0 : Hid (Below w.heap.size w W ∧ W.heap.size = w.heap.size + 1) := ⟨hbW, by rw [hW]; simp⟩
  obtain ⟨V, hV⟩ : ∃ V, V = emptyW W := ⟨_, rfl⟩
  have hbV : Below W.heap.size W V := by rw [hV]; exact (Below.refl _ _).alloc (Nat.le_refl _) _
  obtain ⟨g0, hg0⟩ : ∃ g, g = W.heap.size := ⟨_, rfl⟩
  obtain ⟨b, hb⟩ : ∃ b, b = w.heap.size := ⟨_, rfl⟩
  have HV : Hid (Below W.heap.size W V ∧ HRow V g0 (.slice (some ⟨g0, 0, none⟩) 0 0) [] ∧ g0 < V.heap.size ∧ b < g0 ∧ b = w.heap.size ∧ g0 = w.heap.size + 1) := ⟨hbV, by rw [hV, hg0]; exact hrow_empty W, by rw [hV, hg0]; simp [emptyW], by rw [hb, hg0, hW]; simp, hb, by rw [hg0, hW]; simp⟩
  have HW : Hid (W = w.alloc (.cells #[.string t.log, .string t.key, .slice a0 t.en.length c0, .string t.h.log, .int .i64 t.h.size, .string t.h.root, .int .i64 t.h.time, .int .i64 t.h.k, .slice a1 t.h.el.length c1, .slice a2 t.h.pl.length c2, .slice ap l.length cp, .bool t.found, .string t.a.log, .int .i64 t.a.size, .string t.a.root, .int .i64 t.a.time, .int .i64 t.a.k, .slice a3 t.a.el.length c3, .slice a4 t.a.pl.length c4, .string t.b.log, .int .i64 t.b.size, .string t.b.root, .int .i64 t.b.time, .int .i64 t.b.k, .slice a5 t.b.el.length c5, .slice a6 t.b.pl.length c6, .slice a7 t.fl.length c7] 41)) := hW
  have HVV : Hid (V = W.alloc (.cells #[] 37)) := hV
  have HB : Hid (b = w.heap.size) := hb
  have HGG : Hid (g0 = w.heap.size + 1) := by show g0 = w.heap.size + 1; rw [hg0, hW]; simp
  have r0 := HC.out V hbV
  rw [← hb] at HC r0
  have HL : Hid (shareL t l = if t.rightB l then (if zeroX t.h t.h.el.length t.h.pl.length then l.map Hv.x else t.h :: l.map Hv.x) else []) := rfl
  clear hi hh hf hl hn hnl hc hcap hin hW hbW k0 hlt0 hb hV hbV hg0
  generalize t.rightB l = P at *
  go_enter Tryz.func5, Tryz.ntmps5
  go_wp2_with (first
    | (rw [← HW.out, ← HVV.out, ← HGG.out, ← HB.out])
    | (refine load_row_g (by kernel_rfl) 41 (.tmp 1) rfl b rfl _ _ _ _ r0 Tryz.underlying41 rfl (by kernel_rfl) ?_))
  clear HW HVV HGG HB r0
  refine (E1.out V HV.out.1).mono ?_
  rintro e w1 ⟨rfl, hb1⟩
  have V1 : Hid (Below W.heap.size W w1 ∧ HRow w1 g0 (.slice (some ⟨g0, 0, none⟩) 0 0) [] ∧ V.heap.size ≤ w1.heap.size) := ⟨HV.out.1.trans (hb1.mono HV.out.1.size), HV.out.2.1.below hb1, hb1.size⟩
  clear hb1 E1
  cases P with
  | false =>
    clear E2 E3 HC
    go_wp2
    go_ret
    exact ⟨_, [], rfl, V1.out.2.1.headsOf (B := 0) (fun q hq => absurd hq (by simp)), by rw [HL.out]; rfl, H0.out.1.trans (V1.out.1.mono H0.out.1.size)⟩
  | true =>
    have r0 := HC.out w1 V1.out.1
    go_wp2_with (first | (refine load_row_g (by kernel_rfl) 41 (.tmp 1) rfl b rfl _ _ _ _ r0 Tryz.underlying41 rfl (by kernel_rfl) ?_))
    clear r0
    refine (E2.out w1 V1.out.1).mono ?_
    intro e w2 hcp
    obtain ⟨u0, u1, u2, up, u3, u4, u5, u6, u7, l', rfl, ⟨o0, ⟨o1, o2⟩, ⟨o3, o4⟩, ⟨o5, o6⟩, o7⟩, ⟨hr, hq⟩, hm, hb2⟩ := hcp
    obtain ⟨u0, m0, rfl⟩ := o0.len
    obtain ⟨u1, m1, rfl⟩ := o1.len
    obtain ⟨u2, m2, rfl⟩ := o2.len
    obtain ⟨u3, m3, rfl⟩ := o3.len
    obtain ⟨u4, m4, rfl⟩ := o4.len
    obtain ⟨u5, m5, rfl⟩ := o5.len
    obtain ⟨u6, m6, rfl⟩ := o6.len
    obtain ⟨u7, m7, rfl⟩ := o7.len
    obtain ⟨pa, pc, rfl, _⟩ := hr.shape
    have hll : l'.length = l.length := by have := congrArg List.length hm; simpa using this
    obtain ⟨pn, hpn⟩ : ∃ n, n = l'.length := ⟨_, rfl⟩
    rw [← hpn] at hr ⊢
    have hb02 : Below W.heap.size W w2 := V1.out.1.trans (hb2.mono V1.out.1.size)
    have s2 := HC.out w2 hb02
    obtain ⟨Z, hZ⟩ : ∃ Z, Z = w2.setRow b #[.string t.log, .string t.key, .slice u0 t.en.length m0, .string t.h.log, .int .i64 t.h.size, .string t.h.root, .int .i64 t.h.time, .int .i64 t.h.k, .slice u1 t.h.el.length m1, .slice u2 t.h.pl.length m2, .slice pa pn pc, .bool t.found, .string t.a.log, .int .i64 t.a.size, .string t.a.root, .int .i64 t.a.time, .int .i64 t.a.k, .slice u3 t.a.el.length m3, .slice u4 t.a.pl.length m4, .string t.b.log, .int .i64 t.b.size, .string t.b.root, .int .i64 t.b.time, .int .i64 t.b.k, .slice u5 t.b.el.length m5, .slice u6 t.b.pl.length m6, .slice u7 t.fl.length m7] := ⟨_, rfl⟩
    have hgZ : w2.grownBy Z (some b) := by rw [hZ]; exact setRow_grown w2 b _
    have hbl : b < w1.heap.size := by have := HV.out.2.2.1; have := HV.out.2.2.2.1; have := V1.out.2.2; omega
    have hrZ : Z.heap[b]? = some (.cells #[.string t.log, .string t.key, .slice u0 t.en.length m0, .string t.h.log, .int .i64 t.h.size, .string t.h.root, .int .i64 t.h.time, .int .i64 t.h.k, .slice u1 t.h.el.length m1, .slice u2 t.h.pl.length m2, .slice pa pn pc, .bool t.found, .string t.a.log, .int .i64 t.a.size, .string t.a.root, .int .i64 t.a.time, .int .i64 t.a.k, .slice u3 t.a.el.length m3, .slice u4 t.a.pl.length m4, .string t.b.log, .int .i64 t.b.size, .string t.b.root, .int .i64 t.b.time, .int .i64 t.b.k, .slice u5 t.b.el.length m5, .slice u6 t.b.pl.length m6, .slice u7 t.fl.length m7] 41 (0, 0)) := by rw [hZ]; exact setRow_heap _ _ _ _ _ _ s2
    have HZ : Hid (Z = w2.setRow b #[.string t.log, .string t.key, .slice u0 t.en.length m0, .string t.h.log, .int .i64 t.h.size, .string t.h.root, .int .i64 t.h.time, .int .i64 t.h.k, .slice u1 t.h.el.length m1, .slice u2 t.h.pl.length m2, .slice pa pn pc, .bool t.found, .string t.a.log, .int .i64 t.a.size, .string t.a.root, .int .i64 t.a.time, .int .i64 t.a.k, .slice u3 t.a.el.length m3, .slice u4 t.a.pl.length m4, .string t.b.log, .int .i64 t.b.size, .string t.b.root, .int .i64 t.b.time, .int .i64 t.b.k, .slice u5 t.b.el.length m5, .slice u6 t.b.pl.length m6, .slice u7 t.fl.length m7]) := hZ
    have hw2 : Below w.heap.size w w2 := H0.out.1.trans (hb02.mono H0.out.1.size)
    have H2 : Hid ((OwnT Z w1.heap.size (.slice u1 t.h.el.length m1) t.h.el ∧ OwnT Z w1.heap.size (.slice u2 t.h.pl.length m2) t.h.pl) ∧ (HRow Z w1.heap.size (.slice pa pn pc) l' ∧ ∀ q ∈ l', HTxt Z w1.heap.size q) ∧ HRow Z g0 (.slice (some ⟨g0, 0, none⟩) 0 0) [] ∧ Below w.heap.size w Z ∧ Z.heap[b]? = some (.cells #[.string t.log, .string t.key, .slice u0 t.en.length m0, .string t.h.log, .int .i64 t.h.size, .string t.h.root, .int .i64 t.h.time, .int .i64 t.h.k, .slice u1 t.h.el.length m1, .slice u2 t.h.pl.length m2, .slice pa pn pc, .bool t.found, .string t.a.log, .int .i64 t.a.size, .string t.a.root, .int .i64 t.a.time, .int .i64 t.a.k, .slice u3 t.a.el.length m3, .slice u4 t.a.pl.length m4, .string t.b.log, .int .i64 t.b.size, .string t.b.root, .int .i64 t.b.time, .int .i64 t.b.k, .slice u5 t.b.el.length m5, .slice u6 t.b.pl.length m6, .slice u7 t.fl.length m7] 41 (0, 0)) ∧ w1.heap.size ≤ Z.heap.size) :=
      ⟨⟨o1.wide hgZ hbl, o2.wide hgZ hbl⟩, ⟨hr.wide hgZ hbl, fun q hq2 => ⟨(hq q hq2).1.wide hgZ hbl, (hq q hq2).2.wide hgZ hbl⟩⟩, (V1.out.2.1.below hb2).wide hgZ HV.out.2.2.2.1, below_own hw2 hgZ (by have := HV.out.2.2.2.2.1; omega), hrZ, Nat.le_trans hb2.size hgZ.size⟩
    have HM : Hid (l'.map Hv.x = l.map Hv.x ∧ l'.length = pn ∧ l'.length ≤ 1000) := ⟨hm, hpn.symm, by rw [hll]; have := HLN.out.2 trivial; omega⟩
    have X2 : Z.rangeAt b 3 [.string t.h.log, .int .i64 t.h.size, .string t.h.root, .int .i64 t.h.time, .int .i64 t.h.k, .slice u1 t.h.el.length m1, .slice u2 t.h.pl.length m2] := World.rangeAt_of_block hrZ 3 7
    clear o0 o1 o2 o3 o4 o5 o6 o7 hr hq hm hb2 hll hpn hb02 hZ hgZ hbl hrZ hw2 E2 HC
    go_wp2_with (first
      | (refine wpList_store_row rfl 41 (.tmp 1) (.tmp 10) rfl b #[.string t.log, .string t.key, .slice u0 t.en.length m0, .string t.h.log, .int .i64 t.h.size, .string t.h.root, .int .i64 t.h.time, .int .i64 t.h.k, .slice u1 t.h.el.length m1, .slice u2 t.h.pl.length m2, .slice pa pn pc, .bool t.found, .string t.a.log, .int .i64 t.a.size, .string t.a.root, .int .i64 t.a.time, .int .i64 t.a.k, .slice u3 t.a.el.length m3, .slice u4 t.a.pl.length m4, .string t.b.log, .int .i64 t.b.size, .string t.b.root, .int .i64 t.b.time, .int .i64 t.b.k, .slice u5 t.b.el.length m5, .slice u6 t.b.pl.length m6, .slice u7 t.fl.length m7] rfl rfl _ _ s2 (by kernel_rfl) rfl (by simp [Value.oneCell']) ?_; rw [← HZ.out]; clear s2 HZ)
      | (refine wpList_load_mid rfl 37 (.tmp 11) rfl b 3 rfl [.string t.h.log, .int .i64 t.h.size, .string t.h.root, .int .i64 t.h.time, .int .i64 t.h.k, .slice u1 t.h.el.length m1, .slice u2 t.h.pl.length m2] _ X2 Tryz.underlying37 rfl (by kernel_rfl) ?_; clear X2))
    refine (E3.out u1 u2 m1 m2 Z).mono ?_
    rintro e w3 ⟨rfl, hb3⟩
    have H3 : Hid ((OwnT w3 w1.heap.size (.slice u1 t.h.el.length m1) t.h.el ∧ OwnT w3 w1.heap.size (.slice u2 t.h.pl.length m2) t.h.pl) ∧ (HRow w3 w1.heap.size (.slice pa pn pc) l' ∧ ∀ q ∈ l', HTxt w3 w1.heap.size q) ∧ HRow w3 g0 (.slice (some ⟨g0, 0, none⟩) 0 0) [] ∧ Below w.heap.size w w3 ∧ w3.heap[b]? = some (.cells #[.string t.log, .string t.key, .slice u0 t.en.length m0, .string t.h.log, .int .i64 t.h.size, .string t.h.root, .int .i64 t.h.time, .int .i64 t.h.k, .slice u1 t.h.el.length m1, .slice u2 t.h.pl.length m2, .slice pa pn pc, .bool t.found, .string t.a.log, .int .i64 t.a.size, .string t.a.root, .int .i64 t.a.time, .int .i64 t.a.k, .slice u3 t.a.el.length m3, .slice u4 t.a.pl.length m4, .string t.b.log, .int .i64 t.b.size, .string t.b.root, .int .i64 t.b.time, .int .i64 t.b.k, .slice u5 t.b.el.length m5, .slice u6 t.b.pl.length m6, .slice u7 t.fl.length m7] 41 (0, 0)) ∧ w1.heap.size ≤ w3.heap.size) :=
      ⟨⟨H2.out.1.1.below hb3 (Nat.le_refl _), H2.out.1.2.below hb3 (Nat.le_refl _)⟩, ⟨H2.out.2.1.1.below hb3, fun q hq => ⟨(H2.out.2.1.2 q hq).1.below hb3 (Nat.le_refl _), (H2.out.2.1.2 q hq).2.below hb3 (Nat.le_refl _)⟩⟩, H2.out.2.2.1.below hb3, H2.out.2.2.2.1.trans (hb3.mono H2.out.2.2.2.1.size), (hb3.block _ (Array.getElem?_eq_some_iff.1 H2.out.2.2.2.2.1).1).trans H2.out.2.2.2.2.1, Nat.le_trans H2.out.2.2.2.2.2 hb3.size⟩
    clear hb3 H2 E3
    have hbg : b < g0 ∧ b = w.heap.size ∧ g0 = w.heap.size + 1 ∧ g0 < w1.heap.size := by
      have h1 := HV.out.2.2
      have := V1.out.2.2
      omega
    have HG : Hid (b < g0 ∧ b = w.heap.size ∧ g0 = w.heap.size + 1 ∧ g0 < w1.heap.size) := hbg
    clear hbg
    generalize zeroX t.h t.h.el.length t.h.pl.length = Z0 at HL ⊢
    cases Z0 with
    | true =>
      have x10 : w3.cell? ⟨b, 10, none⟩ = some (.slice pa pn pc) := row_here H3.out.2.2.2.2.1 10 _ rfl
      have HH3 : Hid (Heads w3 w3.heap.size (.slice pa pn pc) l') := H3.out.2.1.1.headsOf H3.out.2.1.2
      go_wp2_with (refine wp_app_heads rfl (.tmp 20) (.tmp 22) rfl g0 (.slice (some ⟨g0, 0, none⟩) 0 0) (.slice pa pn pc) [] l' rfl H3.out.2.2.1 rfl HH3.out (by simp) (by have := HM.out.2.2; omega) (by have := HG.out; have := H3.out.2.2.2.2.2; omega) ?_; intro v' w4 hr4 hg4; have H4 : Hid (HRow w4 g0 v' ([] ++ l') ∧ w3.grownBy w4 (Value.slice (some ⟨g0, 0, none⟩) 0 0).ownBlock) := ⟨hr4, hg4⟩; clear hr4 hg4 x10)
      go_ret
      have hr4 := H4.out.1
      rw [List.nil_append] at hr4
      refine ⟨v', l', rfl, hr4.headsOf (B := w1.heap.size) fun q hq => ⟨(H3.out.2.1.2 q hq).1.rowpast H3.out.2.2.1 H4.out.2, (H3.out.2.1.2 q hq).2.rowpast H3.out.2.2.1 H4.out.2⟩, by rw [HL.out]; exact HM.out.1, H3.out.2.2.1.growBelow H4.out.2 H3.out.2.2.2.1 (by have := HG.out; omega) (Nat.le_refl _)⟩
    | false =>
      have X3 : w3.rangeAt b 3 [.string t.h.log, .int .i64 t.h.size, .string t.h.root, .int .i64 t.h.time, .int .i64 t.h.k, .slice u1 t.h.el.length m1, .slice u2 t.h.pl.length m2] := World.rangeAt_of_block H3.out.2.2.2.2.1 3 7
      obtain ⟨q, hqq⟩ : ∃ q : Hv, q = ⟨t.h, .slice u1 t.h.el.length m1, .slice u2 t.h.pl.length m2⟩ := ⟨_, rfl⟩
      obtain ⟨Y, hY⟩ : ∃ Y, Y = w3.alloc (.cells #[.string t.h.log, .int .i64 t.h.size, .string t.h.root, .int .i64 t.h.time, .int .i64 t.h.k, .slice u1 t.h.el.length m1, .slice u2 t.h.pl.length m2] 37) := ⟨_, rfl⟩
      have hal : Below w3.heap.size w3 Y := by rw [hY]; exact (Below.refl _ _).alloc (Nat.le_refl _) _
      have hone : HRow Y w3.heap.size (.slice (some ⟨w3.heap.size, 0, none⟩) 1 1) [q] := by
        rw [hY, hqq]
        exact HRow.one w3 w3.heap.size ⟨t.h, .slice u1 t.h.el.length m1, .slice u2 t.h.pl.length m2⟩ (Nat.le_refl _)
      have hqt : HTxt Y w1.heap.size q := by rw [hqq]; exact ⟨H3.out.1.1.below hal (Nat.le_refl _), H3.out.1.2.below hal (Nat.le_refl _)⟩
      have HY : Hid (HTxt Y w1.heap.size q ∧ (HRow Y w1.heap.size (.slice pa pn pc) l' ∧ ∀ q ∈ l', HTxt Y w1.heap.size q) ∧ HRow Y g0 (.slice (some ⟨g0, 0, none⟩) 0 0) [] ∧ Below w.heap.size w Y ∧ Y.heap[b]? = some (.cells #[.string t.log, .string t.key, .slice u0 t.en.length m0, .string t.h.log, .int .i64 t.h.size, .string t.h.root, .int .i64 t.h.time, .int .i64 t.h.k, .slice u1 t.h.el.length m1, .slice u2 t.h.pl.length m2, .slice pa pn pc, .bool t.found, .string t.a.log, .int .i64 t.a.size, .string t.a.root, .int .i64 t.a.time, .int .i64 t.a.k, .slice u3 t.a.el.length m3, .slice u4 t.a.pl.length m4, .string t.b.log, .int .i64 t.b.size, .string t.b.root, .int .i64 t.b.time, .int .i64 t.b.k, .slice u5 t.b.el.length m5, .slice u6 t.b.pl.length m6, .slice u7 t.fl.length m7] 41 (0, 0)) ∧ w1.heap.size ≤ Y.heap.size ∧ q.x = t.h) :=
        ⟨hqt, ⟨H3.out.2.1.1.below hal, fun q hq => ⟨(H3.out.2.1.2 q hq).1.below hal (Nat.le_refl _), (H3.out.2.1.2 q hq).2.below hal (Nat.le_refl _)⟩⟩, H3.out.2.2.1.below hal, H3.out.2.2.2.1.trans (hal.mono H3.out.2.2.2.1.size), (hal.block _ (Array.getElem?_eq_some_iff.1 H3.out.2.2.2.2.1).1).trans H3.out.2.2.2.2.1, Nat.le_trans H3.out.2.2.2.2.2 hal.size, by rw [hqq]⟩
      have HO : Hid (Heads Y Y.heap.size (.slice (some ⟨w3.heap.size, 0, none⟩) 1 1) [q]) := hone.headsOf (B := w1.heap.size) fun y hy => by rw [List.mem_singleton] at hy; rw [hy]; exact hqt
      have HYY : Hid (Y = w3.alloc (.cells #[.string t.h.log, .int .i64 t.h.size, .string t.h.root, .int .i64 t.h.time, .int .i64 t.h.k, .slice u1 t.h.el.length m1, .slice u2 t.h.pl.length m2] 37)) := hY
      clear hqq hY hal hone hqt H3
      go_wp2_with (first
        | (refine wpList_load_mid rfl 37 (.tmp 16) rfl b 3 rfl [.string t.h.log, .int .i64 t.h.size, .string t.h.root, .int .i64 t.h.time, .int .i64 t.h.k, .slice u1 t.h.el.length m1, .slice u2 t.h.pl.length m2] _ X3 Tryz.underlying37 rfl (by kernel_rfl) ?_; clear X3)
        | (rw [← HYY.out]; clear HYY)
        | (refine wp_app_heads rfl (.tmp 15) (.tmp 18) rfl g0 (.slice (some ⟨g0, 0, none⟩) 0 0) (.slice (some ⟨w3.heap.size, 0, none⟩) 1 1) [] [q] rfl HY.out.2.2.1 rfl HO.out (by simp) (by simp) (by have := HG.out; have := HY.out.2.2.2.2.2.1; omega) ?_; intro v4 w4 hr4 hg4; rw [List.nil_append] at hr4; have hgY : ∀ k, Y.heap.size > k → k ≠ g0 → w4.heap[k]? = Y.heap[k]? := (fun k hk hne => hg4.block k hk (by simp [Value.ownBlock]; omega)); have hY1 := HY.out.1; have hY2 := HY.out.2.1; have H4 : Hid (HTxt w4 w1.heap.size q ∧ (HRow w4 w1.heap.size (.slice pa pn pc) l' ∧ ∀ q ∈ l', HTxt w4 w1.heap.size q) ∧ HRow w4 g0 v4 [q] ∧ Below w.heap.size w w4 ∧ w4.heap[b]? = some (.cells #[.string t.log, .string t.key, .slice u0 t.en.length m0, .string t.h.log, .int .i64 t.h.size, .string t.h.root, .int .i64 t.h.time, .int .i64 t.h.k, .slice u1 t.h.el.length m1, .slice u2 t.h.pl.length m2, .slice pa pn pc, .bool t.found, .string t.a.log, .int .i64 t.a.size, .string t.a.root, .int .i64 t.a.time, .int .i64 t.a.k, .slice u3 t.a.el.length m3, .slice u4 t.a.pl.length m4, .string t.b.log, .int .i64 t.b.size, .string t.b.root, .int .i64 t.b.time, .int .i64 t.b.k, .slice u5 t.b.el.length m5, .slice u6 t.b.pl.length m6, .slice u7 t.fl.length m7] 41 (0, 0)) ∧ w1.heap.size ≤ w4.heap.size ∧ q.x = t.h) := ⟨⟨hY1.1.rowpast HY.out.2.2.1 hg4, hY1.2.rowpast HY.out.2.2.1 hg4⟩, ⟨hY2.1.same (fun g hg => hgY g (World.ownsRow.lt hY2.1 g hg).2 (by have := (World.ownsRow.lt hY2.1 g hg).1; have := HG.out; omega)), fun y hy => ⟨(hY2.2 y hy).1.rowpast HY.out.2.2.1 hg4, (hY2.2 y hy).2.rowpast HY.out.2.2.1 hg4⟩⟩, hr4, HY.out.2.2.1.growBelow hg4 HY.out.2.2.2.1 (by have := HG.out; omega) (Nat.le_refl _), (hgY b (Array.getElem?_eq_some_iff.1 HY.out.2.2.2.2.1).1 (by have := HG.out; omega)).trans HY.out.2.2.2.2.1, Nat.le_trans HY.out.2.2.2.2.2.1 hg4.size, HY.out.2.2.2.2.2.2⟩; have x10 : w4.cell? ⟨b, 10, none⟩ = some (.slice pa pn pc) := row_here H4.out.2.2.2.2.1 10 _ rfl; have HH4 : Hid (Heads w4 w4.heap.size (.slice pa pn pc) l') := H4.out.2.1.1.headsOf H4.out.2.1.2; clear hr4 hg4 hgY hY1 hY2 HO)
        | (refine wp_app_heads rfl (.tmp 20) (.tmp 22) rfl g0 v4 (.slice pa pn pc) [q] l' rfl H4.out.2.2.1 rfl HH4.out (by simp) (by have := HM.out.2.2; omega) (by have := HG.out; have := H4.out.2.2.2.2.2.1; omega) ?_; intro v5 w5 hr5 hg5; have H5 : Hid (HRow w5 g0 v5 ([q] ++ l') ∧ w4.grownBy w5 v4.ownBlock) := ⟨hr5, hg5⟩; clear hr5 hg5 x10))
      go_ret
      refine ⟨v5, [q] ++ l', rfl, H5.out.1.headsOf (B := w1.heap.size) fun y hy => ?_, ?_, H4.out.2.2.1.growBelow H5.out.2 H4.out.2.2.2.1 (by have := HG.out; omega) (Nat.le_refl _)⟩
      · rcases List.mem_append.1 hy with h1 | h1
        · rw [List.mem_singleton] at h1
          rw [h1]
          exact ⟨H4.out.1.1.rowpast H4.out.2.2.1 H5.out.2, H4.out.1.2.rowpast H4.out.2.2.1 H5.out.2⟩
        · exact ⟨(H4.out.2.1.2 y h1).1.rowpast H4.out.2.2.1 H5.out.2, (H4.out.2.1.2 y h1).2.rowpast H4.out.2.2.1 H5.out.2⟩
      · rw [HL.out]
        show q.x :: l'.map Hv.x = _
        rw [H4.out.2.2.2.2.2.2, HM.out.1]
        rfl
end Go.Proofs.YtcenlgfopmahcaaGreatDoor

/-
  The walk of the exact law of Shares.
-/
namespace Go.Proofs.YtcenlgfopmahcaaGreatDoor
open Go.RowKit Go.Lib
set_option linter.unusedVariables false
set_option linter.unusedSimpArgs false

theorem shareL_map {t : Wt} {l l' : List Hv} (h : l'.map Hv.x = l.map Hv.x) : shareL t l' = shareL t l := by
  unfold shareL
  rw [Wt.rightB_map h, h]
theorem shareL_lim {t : Wt} {l : List Hv} (hf : t.Lens) (hl : HdsLim l) : (shareL t l).length ≤ 1048577 ∧ ∀ x ∈ shareL t l, x.Lim := by
  have hm : ∀ x ∈ l.map Hv.x, x.Lim := fun x hx => by
    obtain ⟨q, hq, rfl⟩ := List.mem_map.1 hx
    obtain ⟨j, hj, rfl⟩ := List.getElem_of_mem hq
    exact hl.2 j hj
  unfold shareL shareH
  split
  · split
    · exact ⟨by rw [List.length_map]; have := hl.1; omega, hm⟩
    · refine ⟨by rw [List.length_cons, List.length_map]; have := hl.1; omega, fun x hx => ?_⟩
      rcases List.mem_cons.1 hx with rfl | hx
      · exact hf.2.2.2.1
      · exact hm x hx
  · exact ⟨by simp, fun x hx => absurd hx (by simp)⟩
theorem shareL_len {t : Wt} {l : List Hv} : (shareL t l).length ≤ 6 := by
  unfold shareL shareH
  split
  · rename_i h
    have h5 := (Wt.rightB_pool h).1
    split
    · rw [List.length_map]; omega
    · rw [List.length_cons, List.length_map]; omega
  · simp
/-- What lies behind the calls: the document's answer ahead of nw, the program's from A to below C. -/
def HMid (W : World) (nw A C : Nat) (v0 v6 : Value) (l0 lg : List Hv) (X : World) : Prop := Below W.heap.size W X ∧ Heads X nw v0 l0 ∧ HO A C v6 lg X ∧ W.heap.size ≤ nw ∧ nw ≤ A ∧ nw ≤ X.heap.size
theorem HMid.below {W : World} {nw A C : Nat} {v0 v6 : Value} {l0 lg : List Hv} {X Y : World} (h : HMid W nw A C v0 v6 l0 lg X) (hb : Below X.heap.size X Y) : HMid W nw A C v0 v6 l0 lg Y :=
  ⟨h.1.trans (hb.mono h.1.size), h.2.1.below (hb.mono h.2.2.2.2.2), h.2.2.1.below hb, h.2.2.2.1, h.2.2.2.2.1, Nat.le_trans h.2.2.2.2.2 hb.size⟩
theorem HMid.aside {W : World} {nw A C : Nat} {v0 v6 : Value} {l0 lg : List Hv} {X Y : World} {B D : Nat} (h : HMid W nw A C v0 v6 l0 lg X) (hi : Inside X Y B D) (h1 : nw ≤ B) (h2 : D ≤ A) : HMid W nw A C v0 v6 l0 lg Y := by
  obtain ⟨k1, k2, k3, k4, k5, k6⟩ := h
  have hb : Below nw X Y := ⟨hi.1, hi.2.1, hi.2.2.1, hi.2.2.2.1, fun b hb => hi.2.2.2.2 b (by omega) (.inl (by omega))⟩
  exact ⟨k1.trans (hb.mono k4), k2.below hb, LocalP.inside (HO.loc A C v6 lg) k3 hi k3.2.2.2.2.2 (.inr h2), k4, k5, Nat.le_trans k6 hi.2.2.2.1⟩
theorem HMid.mark {W : World} {nw A C : Nat} {v0 v6 : Value} {l0 lg lg' : List Hv} {X Y : World} (h : HMid W nw A C v0 v6 l0 lg X) (hi : Inside X Y A C) (ho : HO A C v6 lg' Y) : HMid W nw A C v0 v6 l0 lg' Y := by
  obtain ⟨k1, k2, k3, k4, k5, k6⟩ := h
  have hb : Below nw X Y := ⟨hi.1, hi.2.1, hi.2.2.1, hi.2.2.2.1, fun b hb => hi.2.2.2.2 b (by omega) (.inl (by omega))⟩
  exact ⟨k1.trans (hb.mono k4), k2.below hb, ho, k4, k5, Nat.le_trans k6 hi.2.2.2.1⟩

set_option maxHeartbeats 4000000 in
set_option maxRecDepth 10000 in
theorem lawShares_any (t : Wt) (l : List Hv) (v0 v1 v2 vp v3 v4 v5 v6 v7 : Value) (w : World) (h : t.Arg l v0 v1 v2 vp v3 v4 v5 v6 v7 w) (hK : Keys w) (hS : Sentinel w) :
    Calls Tryz.prog 3 #[.agg #[.string t.log, .string t.key, v0, .string t.h.log, .int .i64 t.h.size, .string t.h.root, .int .i64 t.h.time, .int .i64 t.h.k, v1, v2, vp, .bool t.found, .string t.a.log, .int .i64 t.a.size, .string t.a.root, .int .i64 t.a.time, .int .i64 t.a.k, v3, v4, .string t.b.log, .int .i64 t.b.size, .string t.b.root, .int .i64 t.b.time, .int .i64 t.b.k, v5, v6, v7]] w fun e w' => e = .returned (.bool true) ∧ Below w.heap.size w w' := by
  obtain ⟨a0, c0, rfl, z0⟩ := id h.2.2.1.1
  obtain ⟨a1, c1, a2, c2, rfl, rfl⟩ := h.2.2.2.1.1.parts
  obtain ⟨⟨ap, cp, rfl, zp⟩, zq⟩ := id h.2.2.2.2.1.1
  obtain ⟨a3, c3, a4, c4, rfl, rfl⟩ := h.2.2.2.2.2.1.1.parts
  obtain ⟨a5, c5, a6, c6, rfl, rfl⟩ := h.2.2.2.2.2.2.1.1.parts
  obtain ⟨a7, c7, rfl, z7⟩ := id h.2.2.2.2.2.2.2.1
  clear z0 zp zq z7
  obtain ⟨W, hW⟩ : ∃ W, W = w.alloc (.cells #[.string t.log, .string t.key, .slice a0 t.en.length c0, .string t.h.log, .int .i64 t.h.size, .string t.h.root, .int .i64 t.h.time, .int .i64 t.h.k, .slice a1 t.h.el.length c1, .slice a2 t.h.pl.length c2, .slice ap l.length cp, .bool t.found, .string t.a.log, .int .i64 t.a.size, .string t.a.root, .int .i64 t.a.time, .int .i64 t.a.k, .slice a3 t.a.el.length c3, .slice a4 t.a.pl.length c4, .string t.b.log, .int .i64 t.b.size, .string t.b.root, .int .i64 t.b.time, .int .i64 t.b.k, .slice a5 t.b.el.length c5, .slice a6 t.b.pl.length c6, .slice a7 t.fl.length c7] 31) := ⟨_, rfl⟩
  have hbW : Below w.heap.size w W := by rw [hW]; exact (Below.refl _ _).alloc (Nat.le_refl _) _
  have k0 : W.heap[w.heap.size]? = some (.cells #[.string t.log, .string t.key, .slice a0 t.en.length c0, .string t.h.log, .int .i64 t.h.size, .string t.h.root, .int .i64 t.h.time, .int .i64 t.h.k, .slice a1 t.h.el.length c1, .slice a2 t.h.pl.length c2, .slice ap l.length cp, .bool t.found, .string t.a.log, .int .i64 t.a.size, .string t.a.root, .int .i64 t.a.time, .int .i64 t.a.k, .slice a3 t.a.el.length c3, .slice a4 t.a.pl.length c4, .string t.b.log, .int .i64 t.b.size, .string t.b.root, .int .i64 t.b.time, .int .i64 t.b.k, .slice a5 t.b.el.length c5, .slice a6 t.b.pl.length c6, .slice a7 t.fl.length c7] 31 (0, 0)) := by rw [hW]; exact heap_alloc_new w _
  have hKW : Keys W := hK.below hbW hK.lt
  have hSW : Sentinel W := hS.on hbW
  have hA := h.on hbW
  have hnums : t.Nums ∧ HdsNum l := ⟨⟨h.2.2.2.1.2.1, h.2.2.2.2.2.1.2.1, h.2.2.2.2.2.2.1.2.1⟩, fun j hj => (h.2.2.2.2.1.2.2 j hj).2.1⟩
  have ES : Hid (Calls Tryz.prog 4 #[.agg #[.string t.log, .string t.key, .slice a0 t.en.length c0, .string t.h.log, .int .i64 t.h.size, .string t.h.root, .int .i64 t.h.time, .int .i64 t.h.k, .slice a1 t.h.el.length c1, .slice a2 t.h.pl.length c2, .slice ap l.length cp, .bool t.found, .string t.a.log, .int .i64 t.a.size, .string t.a.root, .int .i64 t.a.time, .int .i64 t.a.k, .slice a3 t.a.el.length c3, .slice a4 t.a.pl.length c4, .string t.b.log, .int .i64 t.b.size, .string t.b.root, .int .i64 t.b.time, .int .i64 t.b.k, .slice a5 t.b.el.length c5, .slice a6 t.b.pl.length c6, .slice a7 t.fl.length c7], .int .i64 1048576] W fun e w' => ∃ r : Int, e = .returned (.int .i64 r) ∧ -1048577 ≤ r ∧ r ≤ 1048576 ∧ (r < 0 ∨ (t.Lens ∧ HdsLim l)) ∧ Below W.heap.size W w') := szW_any t l _ _ _ _ _ _ _ _ _ 1048576 W hA (by omega) (by omega)
  have ETf : Hid (t.Lens → HdsLim l → ∀ X, Below W.heap.size W X → Calls Tryz.prog 6 #[.agg #[.string t.log, .string t.key, .slice a0 t.en.length c0, .string t.h.log, .int .i64 t.h.size, .string t.h.root, .int .i64 t.h.time, .int .i64 t.h.k, .slice a1 t.h.el.length c1, .slice a2 t.h.pl.length c2, .slice ap l.length cp, .bool t.found, .string t.a.log, .int .i64 t.a.size, .string t.a.root, .int .i64 t.a.time, .int .i64 t.a.k, .slice a3 t.a.el.length c3, .slice a4 t.a.pl.length c4, .string t.b.log, .int .i64 t.b.size, .string t.b.root, .int .i64 t.b.time, .int .i64 t.b.k, .slice a5 t.b.el.length c5, .slice a6 t.b.pl.length c6, .slice a7 t.fl.length c7]] X (ToX t l X)) := fun hf hl X q => (toW_in t l _ _ _ _ _ _ _ _ _ X ⟨(hA.on q).2.2.1.1, (hA.on q).2.2.2.1.1, (hA.on q).2.2.2.2.2.1.1, (hA.on q).2.2.2.2.2.2.1.1, (hA.on q).2.2.2.2.2.2.2.1⟩ (hA.on q).2.2.2.2.1.1 hf hl).mono fun e w' h => h.toX
  have EWf : Hid (t.Lens → HdsLim l → ∀ (b0 b1 b2 b3 b4 b5 b6 b7 bp : Option Addr) (d0 d1 d2 d3 d4 d5 d6 d7 np dp : Nat) (n0 n9 : Nat) X, Below W.heap.size W X → XRows t l b0 b1 b2 b3 b4 b5 b6 b7 bp d0 d1 d2 d3 d4 d5 d6 d7 np dp n0 n9 X → Calls Tryz.prog 5 #[.agg #[.string t.log, .string t.key, .slice b0 t.en.length d0, .string t.h.log, .int .i64 t.h.size, .string t.h.root, .int .i64 t.h.time, .int .i64 t.h.k, .slice b1 t.h.el.length d1, .slice b2 t.h.pl.length d2, .slice bp np dp, .bool t.found, .string t.a.log, .int .i64 t.a.size, .string t.a.root, .int .i64 t.a.time, .int .i64 t.a.k, .slice b3 t.a.el.length d3, .slice b4 t.a.pl.length d4, .string t.b.log, .int .i64 t.b.size, .string t.b.root, .int .i64 t.b.time, .int .i64 t.b.k, .slice b5 t.b.el.length d5, .slice b6 t.b.pl.length d6, .slice b7 t.fl.length d7]] X (SharesIn (shareL t l) X)) := fun hf hl b0 b1 b2 b3 b4 b5 b6 b7 bp d0 d1 d2 d3 d4 d5 d6 d7 np dp n0 n9 X q hx => by
    obtain ⟨l', hi, hh, hm⟩ := hx.ins
    rw [← shareL_map hm]
    exact specShares_any t l' _ _ _ _ _ _ _ _ _ X hi hh hf (hl.map hm) hnums.1 (hnums.2.map hm)
  have EIf : Hid (t.Lens → HdsLim l → ∀ (b0 b1 b2 b3 b4 b5 b6 b7 bp : Option Addr) (d0 d1 d2 d3 d4 d5 d6 d7 np dp : Nat) (n0 n9 : Nat) X, Below W.heap.size W X → XRows t l b0 b1 b2 b3 b4 b5 b6 b7 bp d0 d1 d2 d3 d4 d5 d6 d7 np dp n0 n9 X → Calls Tryz.prog 7 #[.agg #[.string t.log, .string t.key, .slice b0 t.en.length d0, .string t.h.log, .int .i64 t.h.size, .string t.h.root, .int .i64 t.h.time, .int .i64 t.h.k, .slice b1 t.h.el.length d1, .slice b2 t.h.pl.length d2, .slice bp np dp, .bool t.found, .string t.a.log, .int .i64 t.a.size, .string t.a.root, .int .i64 t.a.time, .int .i64 t.a.k, .slice b3 t.a.el.length d3, .slice b4 t.a.pl.length d4, .string t.b.log, .int .i64 t.b.size, .string t.b.root, .int .i64 t.b.time, .int .i64 t.b.k, .slice b5 t.b.el.length d5, .slice b6 t.b.pl.length d6, .slice b7 t.fl.length d7]] X (SharesOut (shareL t l) X)) := fun hf hl b0 b1 b2 b3 b4 b5 b6 b7 bp d0 d1 d2 d3 d4 d5 d6 d7 np dp n0 n9 X q hx => by
    obtain ⟨l', hi, hh, hm⟩ := hx.ins
    rw [← shareL_map hm]
    exact implShares_any t l' _ _ _ _ _ _ _ _ _ X hi hh hf (hl.map hm) hnums.1 (hnums.2.map hm) (hKW.below q hKW.lt) (hSW.on q)
  have H0 : Hid (Below w.heap.size w W ∧ w.heap.size < W.heap.size ∧ W.heap[w.heap.size]? = some (.cells #[.string t.log, .string t.key, .slice a0 t.en.length c0, .string t.h.log, .int .i64 t.h.size, .string t.h.root, .int .i64 t.h.time, .int .i64 t.h.k, .slice a1 t.h.el.length c1, .slice a2 t.h.pl.length c2, .slice ap l.length cp, .bool t.found, .string t.a.log, .int .i64 t.a.size, .string t.a.root, .int .i64 t.a.time, .int .i64 t.a.k, .slice a3 t.a.el.length c3, .slice a4 t.a.pl.length c4, .string t.b.log, .int .i64 t.b.size, .string t.b.root, .int .i64 t.b.time, .int .i64 t.b.k, .slice a5 t.b.el.length c5, .slice a6 t.b.pl.length c6, .slice a7 t.fl.length c7] 31 (0, 0))) := ⟨hbW, (Array.getElem?_eq_some_iff.1 k0).1, k0⟩
  have HW : Hid (W = w.alloc (.cells #[.string t.log, .string t.key, .slice a0 t.en.length c0, .string t.h.log, .int .i64 t.h.size, .string t.h.root, .int .i64 t.h.time, .int .i64 t.h.k, .slice a1 t.h.el.length c1, .slice a2 t.h.pl.length c2, .slice ap l.length cp, .bool t.found, .string t.a.log, .int .i64 t.a.size, .string t.a.root, .int .i64 t.a.time, .int .i64 t.a.k, .slice a3 t.a.el.length c3, .slice a4 t.a.pl.length c4, .string t.b.log, .int .i64 t.b.size, .string t.b.root, .int .i64 t.b.time, .int .i64 t.b.k, .slice a5 t.b.el.length c5, .slice a6 t.b.pl.length c6, .slice a7 t.fl.length c7] 31)) := hW
  obtain ⟨bw, hbw⟩ : ∃ bw, bw = w.heap.size := ⟨_, rfl⟩
  have HBW : Hid (bw = w.heap.size) := hbw
  have r0 := k0
  rw [← hbw] at r0
  have HLIM : Hid (t.Lens → HdsLim l → (shareL t l).length ≤ 6 ∧ ∀ x ∈ shareL t l, x.Lim) := fun hf hl => ⟨shareL_len, (shareL_lim hf hl).2⟩
  generalize shareL t l = L at *
  clear h hK hS hbW k0 hKW hSW hA hnums hW hbw
  go_enter Tryz.func3, Tryz.ntmps3
  go_wp2_with (first | (rw [← HW.out, ← HBW.out]; refine wpList_load_row rfl 31 (.tmp 1) rfl bw rfl _ _ _ _ r0 Tryz.underlying31 rfl (by kernel_rfl) ?_))
  refine ES.out.mono ?_
  rintro e w1 ⟨r1, rfl, p0, p1, q1, hb1⟩
  have Q1 : Hid (r1 < 0 ∨ (t.Lens ∧ HdsLim l)) := q1
  have B1 : Hid (Below W.heap.size W w1) := hb1
  clear q1 hb1 ES HW r0
  by_cases hneg : r1 < 0
  · clear ETf EWf EIf
    go_wp2
    go_ret
    exact ⟨rfl, H0.out.1.trans (B1.out.mono H0.out.1.size)⟩
  obtain ⟨hf, hl⟩ := Q1.out.resolve_left (by omega)
  have HF : Hid (t.Lens ∧ HdsLim l) := ⟨hf, hl⟩
  have ET : Hid (∀ X, Below W.heap.size W X → Calls Tryz.prog 6 #[.agg #[.string t.log, .string t.key, .slice a0 t.en.length c0, .string t.h.log, .int .i64 t.h.size, .string t.h.root, .int .i64 t.h.time, .int .i64 t.h.k, .slice a1 t.h.el.length c1, .slice a2 t.h.pl.length c2, .slice ap l.length cp, .bool t.found, .string t.a.log, .int .i64 t.a.size, .string t.a.root, .int .i64 t.a.time, .int .i64 t.a.k, .slice a3 t.a.el.length c3, .slice a4 t.a.pl.length c4, .string t.b.log, .int .i64 t.b.size, .string t.b.root, .int .i64 t.b.time, .int .i64 t.b.k, .slice a5 t.b.el.length c5, .slice a6 t.b.pl.length c6, .slice a7 t.fl.length c7]] X (ToX t l X)) := ETf.out hf hl
  have EW : Hid (∀ (b0 b1 b2 b3 b4 b5 b6 b7 bp : Option Addr) (d0 d1 d2 d3 d4 d5 d6 d7 np dp : Nat) (n0 n9 : Nat) X, Below W.heap.size W X → XRows t l b0 b1 b2 b3 b4 b5 b6 b7 bp d0 d1 d2 d3 d4 d5 d6 d7 np dp n0 n9 X → Calls Tryz.prog 5 #[.agg #[.string t.log, .string t.key, .slice b0 t.en.length d0, .string t.h.log, .int .i64 t.h.size, .string t.h.root, .int .i64 t.h.time, .int .i64 t.h.k, .slice b1 t.h.el.length d1, .slice b2 t.h.pl.length d2, .slice bp np dp, .bool t.found, .string t.a.log, .int .i64 t.a.size, .string t.a.root, .int .i64 t.a.time, .int .i64 t.a.k, .slice b3 t.a.el.length d3, .slice b4 t.a.pl.length d4, .string t.b.log, .int .i64 t.b.size, .string t.b.root, .int .i64 t.b.time, .int .i64 t.b.k, .slice b5 t.b.el.length d5, .slice b6 t.b.pl.length d6, .slice b7 t.fl.length d7]] X (SharesIn L X)) := EWf.out hf hl
  have EI : Hid (∀ (b0 b1 b2 b3 b4 b5 b6 b7 bp : Option Addr) (d0 d1 d2 d3 d4 d5 d6 d7 np dp : Nat) (n0 n9 : Nat) X, Below W.heap.size W X → XRows t l b0 b1 b2 b3 b4 b5 b6 b7 bp d0 d1 d2 d3 d4 d5 d6 d7 np dp n0 n9 X → Calls Tryz.prog 7 #[.agg #[.string t.log, .string t.key, .slice b0 t.en.length d0, .string t.h.log, .int .i64 t.h.size, .string t.h.root, .int .i64 t.h.time, .int .i64 t.h.k, .slice b1 t.h.el.length d1, .slice b2 t.h.pl.length d2, .slice bp np dp, .bool t.found, .string t.a.log, .int .i64 t.a.size, .string t.a.root, .int .i64 t.a.time, .int .i64 t.a.k, .slice b3 t.a.el.length d3, .slice b4 t.a.pl.length d4, .string t.b.log, .int .i64 t.b.size, .string t.b.root, .int .i64 t.b.time, .int .i64 t.b.k, .slice b5 t.b.el.length d5, .slice b6 t.b.pl.length d6, .slice b7 t.fl.length d7]] X (SharesOut L X)) := EIf.out hf hl
  have HLI : Hid (L.length ≤ 6 ∧ ∀ x ∈ L, x.Lim) := HLIM.out hf hl
  have HROW : Hid (∀ X, Below W.heap.size W X → X.heap[bw]? = some (.cells #[.string t.log, .string t.key, .slice a0 t.en.length c0, .string t.h.log, .int .i64 t.h.size, .string t.h.root, .int .i64 t.h.time, .int .i64 t.h.k, .slice a1 t.h.el.length c1, .slice a2 t.h.pl.length c2, .slice ap l.length cp, .bool t.found, .string t.a.log, .int .i64 t.a.size, .string t.a.root, .int .i64 t.a.time, .int .i64 t.a.k, .slice a3 t.a.el.length c3, .slice a4 t.a.pl.length c4, .string t.b.log, .int .i64 t.b.size, .string t.b.root, .int .i64 t.b.time, .int .i64 t.b.k, .slice a5 t.b.el.length c5, .slice a6 t.b.pl.length c6, .slice a7 t.fl.length c7] 31 (0, 0))) := fun X q => (q.block _ (by rw [HBW.out]; exact H0.out.2.1)).trans (by rw [HBW.out]; exact H0.out.2.2)
  have EQ : Hid (∀ v1 v2 l1 l2 X, Heads X X.heap.size v1 l1 → Heads X X.heap.size v2 l2 → l1.map Hv.x = L → l2.map Hv.x = L → Calls Tryz.prog 8 #[v1, v2] X fun e w' => e = .returned (.bool true) ∧ Below X.heap.size X w') := fun v1 v2 l1 l2 X h1 h2 m1 m2 => eqHeads_any v1 v2 l1 l2 X h1 h2 (m1.trans m2.symm) (by have := congrArg List.length m1; rw [List.length_map] at this; have := HLI.out.1; omega) fun j hj => HLI.out.2 _ (by rw [← m1]; exact List.mem_map.2 ⟨l1[j], List.getElem_mem hj, rfl⟩)
  have HCN : Hid (∀ lg : List Hv, lg.map Hv.x = L → (1 + cntHs lg ≤ 90000000000000 ∧ lg.length ≤ 2000000 ∧ ∀ q ∈ lg, q.x.el.length ≤ 2000000 ∧ q.x.pl.length ≤ 2000000)) := fun lg hm => by
    have hlen : lg.length ≤ 6 := by have := congrArg List.length hm; rw [List.length_map] at this; have := HLI.out.1; omega
    have hq : ∀ q ∈ lg, q.x.el.length ≤ 1048576 ∧ q.x.pl.length ≤ 1048576 := fun q hq => by
      have := HLI.out.2 q.x (by rw [← hm]; exact List.mem_map.2 ⟨q, hq, rfl⟩)
      exact ⟨this.2.2.1, this.2.2.2⟩
    have := cntHs_lim lg hq
    exact ⟨by omega, by omega, fun q hq2 => ⟨by have := (hq q hq2).1; omega, by have := (hq q hq2).2; omega⟩⟩
  clear ETf EWf EIf hf hl Q1 HLIM
  have r1 := HROW.out _ B1.out
  go_wp2_with (first | (refine wpList_load_row rfl 31 (.tmp 1) rfl bw rfl _ _ _ _ r1 Tryz.underlying31 rfl (by kernel_rfl) ?_))
  clear r1
  refine (ET.out _ B1.out).mono ?_
  intro e w2 hto
  obtain ⟨k0, k1, k2, k3, k4, k5, k6, k7, kp, j0, j1, j2, j3, j4, j5, j6, j7, mk, jp, n7, rfl, hx, hn0, hn9, hb⟩ := hto
  have B2 : Hid (Below W.heap.size W w2) := B1.out.trans (hb.mono B1.out.size)
  have E2 : Hid (Calls Tryz.prog 5 #[.agg #[.string t.log, .string t.key, .slice k0 t.en.length j0, .string t.h.log, .int .i64 t.h.size, .string t.h.root, .int .i64 t.h.time, .int .i64 t.h.k, .slice k1 t.h.el.length j1, .slice k2 t.h.pl.length j2, .slice kp mk jp, .bool t.found, .string t.a.log, .int .i64 t.a.size, .string t.a.root, .int .i64 t.a.time, .int .i64 t.a.k, .slice k3 t.a.el.length j3, .slice k4 t.a.pl.length j4, .string t.b.log, .int .i64 t.b.size, .string t.b.root, .int .i64 t.b.time, .int .i64 t.b.k, .slice k5 t.b.el.length j5, .slice k6 t.b.pl.length j6, .slice k7 t.fl.length j7]] w2 (SharesIn L w2)) := EW.out _ _ _ _ _ _ _ _ _ _ _ _ _ _ _ _ _ _ _ _ _ w2 B2.out hx
  clear hx hn0 hn9 hb EW
  go_wp2_with fail
  refine E2.out.mono ?_
  intro e w3 hsh
  obtain ⟨vs, l0, rfl, hh0, hm0, hb⟩ := hsh
  have B3 : Hid (Below W.heap.size W w3 ∧ Heads w3 w3.heap.size vs l0 ∧ l0.map Hv.x = L) := ⟨B2.out.trans (hb.mono B2.out.size), hh0, hm0⟩
  clear hh0 hm0 hb E2 B2
  have r1 := HROW.out _ B3.out.1
  go_wp2_with (first | (refine wpList_load_row rfl 31 (.tmp 1) rfl bw rfl _ _ _ _ r1 Tryz.underlying31 rfl (by kernel_rfl) ?_))
  clear r1
  refine (ET.out _ B3.out.1).mono ?_
  intro e w4 hto
  obtain ⟨b0, b1, b2, b3, b4, b5, b6, b7, bp, d0, d1, d2, d3, d4, d5, d6, d7, np, dp, n0, rfl, hx, hn0, hn9, hb⟩ := hto
  obtain ⟨X5, hX5⟩ : ∃ X, X = w4.alloc (.cells #[.string t.log, .string t.key, .slice b0 t.en.length d0, .string t.h.log, .int .i64 t.h.size, .string t.h.root, .int .i64 t.h.time, .int .i64 t.h.k, .slice b1 t.h.el.length d1, .slice b2 t.h.pl.length d2, .slice bp np dp, .bool t.found, .string t.a.log, .int .i64 t.a.size, .string t.a.root, .int .i64 t.a.time, .int .i64 t.a.k, .slice b3 t.a.el.length d3, .slice b4 t.a.pl.length d4, .string t.b.log, .int .i64 t.b.size, .string t.b.root, .int .i64 t.b.time, .int .i64 t.b.k, .slice b5 t.b.el.length d5, .slice b6 t.b.pl.length d6, .slice b7 t.fl.length d7] 41) := ⟨_, rfl⟩
  obtain ⟨bx, hbx⟩ : ∃ g, g = w4.heap.size := ⟨_, rfl⟩
  obtain ⟨n9, hn9e⟩ : ∃ n, n = w4.heap.size := ⟨_, rfl⟩
  rw [← hn9e] at hx hn9
  have hal : Below w4.heap.size w4 X5 := by rw [hX5]; exact (Below.refl _ _).alloc (Nat.le_refl _) _
  have hb45 : Below w3.heap.size w3 X5 := hb.trans (hal.mono hb.size)
  have hz5 : X5.heap.size = w4.heap.size + 1 := by rw [hX5]; simp
  have B5 : Hid ((Below W.heap.size W X5 ∧ X5.heap[bx]? = some (.cells #[.string t.log, .string t.key, .slice b0 t.en.length d0, .string t.h.log, .int .i64 t.h.size, .string t.h.root, .int .i64 t.h.time, .int .i64 t.h.k, .slice b1 t.h.el.length d1, .slice b2 t.h.pl.length d2, .slice bp np dp, .bool t.found, .string t.a.log, .int .i64 t.a.size, .string t.a.root, .int .i64 t.a.time, .int .i64 t.a.k, .slice b3 t.a.el.length d3, .slice b4 t.a.pl.length d4, .string t.b.log, .int .i64 t.b.size, .string t.b.root, .int .i64 t.b.time, .int .i64 t.b.k, .slice b5 t.b.el.length d5, .slice b6 t.b.pl.length d6, .slice b7 t.fl.length d7] 41 (0, 0))) ∧ XRows t l b0 b1 b2 b3 b4 b5 b6 b7 bp d0 d1 d2 d3 d4 d5 d6 d7 np dp n0 n9 X5 ∧ Heads X5 w3.heap.size vs l0 ∧ (W.heap.size ≤ w3.heap.size ∧ w3.heap.size ≤ n0 ∧ n0 ≤ n9 ∧ n9 ≤ bx ∧ bx < X5.heap.size)) := ⟨⟨B3.out.1.trans (hb45.mono B3.out.1.size), by rw [hX5, hbx]; exact heap_alloc_new w4 _⟩, hx.below hal, B3.out.2.1.below hb45, B3.out.1.size, hn0, hn9, by omega, by omega⟩
  have HM0 : Hid (l0.map Hv.x = L) := B3.out.2.2
  have E5 : Hid (Calls Tryz.prog 7 #[.agg #[.string t.log, .string t.key, .slice b0 t.en.length d0, .string t.h.log, .int .i64 t.h.size, .string t.h.root, .int .i64 t.h.time, .int .i64 t.h.k, .slice b1 t.h.el.length d1, .slice b2 t.h.pl.length d2, .slice bp np dp, .bool t.found, .string t.a.log, .int .i64 t.a.size, .string t.a.root, .int .i64 t.a.time, .int .i64 t.a.k, .slice b3 t.a.el.length d3, .slice b4 t.a.pl.length d4, .string t.b.log, .int .i64 t.b.size, .string t.b.root, .int .i64 t.b.time, .int .i64 t.b.k, .slice b5 t.b.el.length d5, .slice b6 t.b.pl.length d6, .slice b7 t.fl.length d7]] X5 (SharesOut L X5)) := EI.out _ _ _ _ _ _ _ _ _ _ _ _ _ _ _ _ _ _ _ _ _ X5 B5.out.1.1 B5.out.2.1
  have HX5 : Hid (X5 = w4.alloc (.cells #[.string t.log, .string t.key, .slice b0 t.en.length d0, .string t.h.log, .int .i64 t.h.size, .string t.h.root, .int .i64 t.h.time, .int .i64 t.h.k, .slice b1 t.h.el.length d1, .slice b2 t.h.pl.length d2, .slice bp np dp, .bool t.found, .string t.a.log, .int .i64 t.a.size, .string t.a.root, .int .i64 t.a.time, .int .i64 t.a.k, .slice b3 t.a.el.length d3, .slice b4 t.a.pl.length d4, .string t.b.log, .int .i64 t.b.size, .string t.b.root, .int .i64 t.b.time, .int .i64 t.b.k, .slice b5 t.b.el.length d5, .slice b6 t.b.pl.length d6, .slice b7 t.fl.length d7] 41)) := hX5
  have HBX : Hid (bx = w4.heap.size) := hbx
  have s5 := B5.out.1.2
  clear hx hn0 hn9 hb hX5 hbx hn9e hal hb45 hz5 B3
  go_wp2_with (first | (refine wpList_store_row rfl 41 (.tmp 5) (.tmp 20) rfl w4.heap.size _ rfl rfl _ _ (heap_alloc_new _ _) (by kernel_rfl) rfl (by simp [Value.oneCell']) ?_; rw [World.setRow_alloc_new, ← HX5.out, ← HBX.out]) | (refine wpList_load_row rfl 41 (.tmp 5) rfl bx rfl _ _ _ _ s5 Tryz.underlying41 rfl (by kernel_rfl) ?_))
  clear HX5 HBX s5
  refine E5.out.mono ?_
  intro e w6 hsh
  obtain ⟨vg, lg, rfl, ho, hm, hb⟩ := hsh
  have HMG : Hid (lg.map Hv.x = L) := hm
  have M6 : Hid (HMid W w3.heap.size X5.heap.size w6.heap.size vs vg l0 lg w6 ∧ (w6.heap[bx]? = some (.cells #[.string t.log, .string t.key, .slice b0 t.en.length d0, .string t.h.log, .int .i64 t.h.size, .string t.h.root, .int .i64 t.h.time, .int .i64 t.h.k, .slice b1 t.h.el.length d1, .slice b2 t.h.pl.length d2, .slice bp np dp, .bool t.found, .string t.a.log, .int .i64 t.a.size, .string t.a.root, .int .i64 t.a.time, .int .i64 t.a.k, .slice b3 t.a.el.length d3, .slice b4 t.a.pl.length d4, .string t.b.log, .int .i64 t.b.size, .string t.b.root, .int .i64 t.b.time, .int .i64 t.b.k, .slice b5 t.b.el.length d5, .slice b6 t.b.pl.length d6, .slice b7 t.fl.length d7] 41 (0, 0)) ∧ bx < w6.heap.size) ∧ XRows t l b0 b1 b2 b3 b4 b5 b6 b7 bp d0 d1 d2 d3 d4 d5 d6 d7 np dp n0 n9 w6) := by
    obtain ⟨⟨y1, y2⟩, y3, y4, y5, y6, y7, y8, y9⟩ := B5.out
    exact ⟨⟨y1.trans (hb.mono y1.size), y4.below (hb.mono (by omega)), ho, y5, by omega, by have := hb.size; omega⟩, ⟨(hb.block _ y9).trans y2, Nat.lt_of_lt_of_le y9 hb.size⟩, y3.below hb⟩
  have HN : Hid (w3.heap.size ≤ n0 ∧ n9 ≤ X5.heap.size ∧ W.heap.size ≤ w3.heap.size) := by
    obtain ⟨_, _, _, y5, y6, y7, y8, y9⟩ := B5.out
    exact ⟨y6, by omega, y5⟩
  clear ho hm hb E5 B5
  go_wp2_with fail
  refine (EQ.out _ _ lg l0 _ M6.out.1.2.2.1.heads (M6.out.1.2.1.up M6.out.1.2.2.2.2.2) HMG.out HM0.out).mono ?_
  rintro e w7 ⟨rfl, hb⟩
  have M7 : Hid (HMid W w3.heap.size X5.heap.size w6.heap.size vs vg l0 lg w7 ∧ (w7.heap[bx]? = some (.cells #[.string t.log, .string t.key, .slice b0 t.en.length d0, .string t.h.log, .int .i64 t.h.size, .string t.h.root, .int .i64 t.h.time, .int .i64 t.h.k, .slice b1 t.h.el.length d1, .slice b2 t.h.pl.length d2, .slice bp np dp, .bool t.found, .string t.a.log, .int .i64 t.a.size, .string t.a.root, .int .i64 t.a.time, .int .i64 t.a.k, .slice b3 t.a.el.length d3, .slice b4 t.a.pl.length d4, .string t.b.log, .int .i64 t.b.size, .string t.b.root, .int .i64 t.b.time, .int .i64 t.b.k, .slice b5 t.b.el.length d5, .slice b6 t.b.pl.length d6, .slice b7 t.fl.length d7] 41 (0, 0)) ∧ bx < w7.heap.size) ∧ True ∧ XRows t l b0 b1 b2 b3 b4 b5 b6 b7 bp d0 d1 d2 d3 d4 d5 d6 d7 np dp n0 n9 w7) := ⟨M6.out.1.below hb, ⟨(hb.block _ M6.out.2.1.2).trans M6.out.2.1.1, Nat.lt_of_lt_of_le M6.out.2.1.2 hb.size⟩, trivial, M6.out.2.2.below hb⟩
  clear hb M6
  have HC : Hid (∀ Y, Below w7.heap.size w7 Y → Y.heap[bx]? = some (.cells #[.string t.log, .string t.key, .slice b0 t.en.length d0, .string t.h.log, .int .i64 t.h.size, .string t.h.root, .int .i64 t.h.time, .int .i64 t.h.k, .slice b1 t.h.el.length d1, .slice b2 t.h.pl.length d2, .slice bp np dp, .bool t.found, .string t.a.log, .int .i64 t.a.size, .string t.a.root, .int .i64 t.a.time, .int .i64 t.a.k, .slice b3 t.a.el.length d3, .slice b4 t.a.pl.length d4, .string t.b.log, .int .i64 t.b.size, .string t.b.root, .int .i64 t.b.time, .int .i64 t.b.k, .slice b5 t.b.el.length d5, .slice b6 t.b.pl.length d6, .slice b7 t.fl.length d7] 41 (0, 0)) ∧ Y.heap[bw]? = some (.cells #[.string t.log, .string t.key, .slice a0 t.en.length c0, .string t.h.log, .int .i64 t.h.size, .string t.h.root, .int .i64 t.h.time, .int .i64 t.h.k, .slice a1 t.h.el.length c1, .slice a2 t.h.pl.length c2, .slice ap l.length cp, .bool t.found, .string t.a.log, .int .i64 t.a.size, .string t.a.root, .int .i64 t.a.time, .int .i64 t.a.k, .slice a3 t.a.el.length c3, .slice a4 t.a.pl.length c4, .string t.b.log, .int .i64 t.b.size, .string t.b.root, .int .i64 t.b.time, .int .i64 t.b.k, .slice a5 t.b.el.length c5, .slice a6 t.b.pl.length c6, .slice a7 t.fl.length c7] 31 (0, 0))) := fun Y q => ⟨(q.block _ M7.out.2.1.2).trans M7.out.2.1.1, HROW.out _ (M7.out.1.1.trans (q.mono M7.out.1.1.size))⟩
  have EQW : Hid (∀ (e0 e1 e2 e3 e4 e5 e6 e7 ep : Option Addr) (f0 f1 f2 f3 f4 f5 f6 f7 mp fp n1 : Nat) (X : World), XRows t l e0 e1 e2 e3 e4 e5 e6 e7 ep f0 f1 f2 f3 f4 f5 f6 f7 mp fp n1 X.heap.size X → XRows t l b0 b1 b2 b3 b4 b5 b6 b7 bp d0 d1 d2 d3 d4 d5 d6 d7 np dp n0 n9 X → Calls Tryz.prog 9 #[.agg #[.string t.log, .string t.key, .slice b0 t.en.length d0, .string t.h.log, .int .i64 t.h.size, .string t.h.root, .int .i64 t.h.time, .int .i64 t.h.k, .slice b1 t.h.el.length d1, .slice b2 t.h.pl.length d2, .slice bp np dp, .bool t.found, .string t.a.log, .int .i64 t.a.size, .string t.a.root, .int .i64 t.a.time, .int .i64 t.a.k, .slice b3 t.a.el.length d3, .slice b4 t.a.pl.length d4, .string t.b.log, .int .i64 t.b.size, .string t.b.root, .int .i64 t.b.time, .int .i64 t.b.k, .slice b5 t.b.el.length d5, .slice b6 t.b.pl.length d6, .slice b7 t.fl.length d7], .agg #[.string t.log, .string t.key, .slice e0 t.en.length f0, .string t.h.log, .int .i64 t.h.size, .string t.h.root, .int .i64 t.h.time, .int .i64 t.h.k, .slice e1 t.h.el.length f1, .slice e2 t.h.pl.length f2, .slice ep mp fp, .bool t.found, .string t.a.log, .int .i64 t.a.size, .string t.a.root, .int .i64 t.a.time, .int .i64 t.a.k, .slice e3 t.a.el.length f3, .slice e4 t.a.pl.length f4, .string t.b.log, .int .i64 t.b.size, .string t.b.root, .int .i64 t.b.time, .int .i64 t.b.k, .slice e5 t.b.el.length f5, .slice e6 t.b.pl.length f6, .slice e7 t.fl.length f7]] X fun e w' => e = .returned (.bool true) ∧ Below X.heap.size X w') := fun e0 e1 e2 e3 e4 e5 e6 e7 ep f0 f1 f2 f3 f4 f5 f6 f7 mp fp n1 X h1 h2 => by
    obtain ⟨k1, i1, j1, m1⟩ := h1.ins
    obtain ⟨k2, i2, j2, m2⟩ := h2.ins
    refine eqW_any t _ _ _ _ _ _ _ _ _ _ _ _ _ _ _ _ _ _ _ _ _ _ _ _ _ _ _ _ _ _ _ _ bp ep np dp mp fp X i2 i1 HF.out.1 fun Y qy => ?_
    have hk2 := HF.out.2.map m2
    exact eqHeads_any _ _ k2 k1 Y (j2.on qy) (j1.on qy) (m2.trans m1.symm) hk2.1 hk2.2
  go_wp2_with fail
  refine wp_region_held_drew (S := (fun Y => Y.heap[bx]? = some (.cells #[.string t.log, .string t.key, .slice b0 t.en.length d0, .string t.h.log, .int .i64 t.h.size, .string t.h.root, .int .i64 t.h.time, .int .i64 t.h.k, .slice b1 t.h.el.length d1, .slice b2 t.h.pl.length d2, .slice bp np dp, .bool t.found, .string t.a.log, .int .i64 t.a.size, .string t.a.root, .int .i64 t.a.time, .int .i64 t.a.k, .slice b3 t.a.el.length d3, .slice b4 t.a.pl.length d4, .string t.b.log, .int .i64 t.b.size, .string t.b.root, .int .i64 t.b.time, .int .i64 t.b.k, .slice b5 t.b.el.length d5, .slice b6 t.b.pl.length d6, .slice b7 t.fl.length d7] 41 (0, 0)) ∧ Y.heap[bw]? = some (.cells #[.string t.log, .string t.key, .slice a0 t.en.length c0, .string t.h.log, .int .i64 t.h.size, .string t.h.root, .int .i64 t.h.time, .int .i64 t.h.k, .slice a1 t.h.el.length c1, .slice a2 t.h.pl.length c2, .slice ap l.length cp, .bool t.found, .string t.a.log, .int .i64 t.a.size, .string t.a.root, .int .i64 t.a.time, .int .i64 t.a.k, .slice a3 t.a.el.length c3, .slice a4 t.a.pl.length c4, .string t.b.log, .int .i64 t.b.size, .string t.b.root, .int .i64 t.b.time, .int .i64 t.b.k, .slice a5 t.b.el.length c5, .slice a6 t.b.pl.length c6, .slice a7 t.fl.length c7] 31 (0, 0)))) (by kernel_rfl) ?_ (fun hHeld => ?_)
  · exact HC.out _ (below_drew' (Below.refl _ _))
  refine wpAnyH_take (i := 0) (v := .agg #[.string t.log, .string t.key, .slice b0 t.en.length d0, .string t.h.log, .int .i64 t.h.size, .string t.h.root, .int .i64 t.h.time, .int .i64 t.h.k, .slice b1 t.h.el.length d1, .slice b2 t.h.pl.length d2, .slice bp np dp, .bool t.found, .string t.a.log, .int .i64 t.a.size, .string t.a.root, .int .i64 t.a.time, .int .i64 t.a.k, .slice b3 t.a.el.length d3, .slice b4 t.a.pl.length d4, .string t.b.log, .int .i64 t.b.size, .string t.b.root, .int .i64 t.b.time, .int .i64 t.b.k, .slice b5 t.b.el.length d5, .slice b6 t.b.pl.length d6, .slice b7 t.fl.length d7]) rfl (by kernel_rfl) (by kernel_rfl) (by kernel_rfl) (fun _ _ _ h => h) (yieldsIf_load_mid (by kernel_rfl) 41 (.tmp 5) rfl bx 0 rfl [.string t.log, .string t.key, .slice b0 t.en.length d0, .string t.h.log, .int .i64 t.h.size, .string t.h.root, .int .i64 t.h.time, .int .i64 t.h.k, .slice b1 t.h.el.length d1, .slice b2 t.h.pl.length d2, .slice bp np dp, .bool t.found, .string t.a.log, .int .i64 t.a.size, .string t.a.root, .int .i64 t.a.time, .int .i64 t.a.k, .slice b3 t.a.el.length d3, .slice b4 t.a.pl.length d4, .string t.b.log, .int .i64 t.b.size, .string t.b.root, .int .i64 t.b.time, .int .i64 t.b.k, .slice b5 t.b.el.length d5, .slice b6 t.b.pl.length d6, .slice b7 t.fl.length d7] _ (fun _ h => row_range h.1) Tryz.underlying41 rfl (by kernel_rfl)) (by assumption) ?_
  (try simp only [Act.put, List.setIfInBounds_toArray, List.set_cons_zero, List.set_cons_succ])
  refine wpAnyH_take (i := 1) (v := .agg #[.string t.log, .string t.key, .slice a0 t.en.length c0, .string t.h.log, .int .i64 t.h.size, .string t.h.root, .int .i64 t.h.time, .int .i64 t.h.k, .slice a1 t.h.el.length c1, .slice a2 t.h.pl.length c2, .slice ap l.length cp, .bool t.found, .string t.a.log, .int .i64 t.a.size, .string t.a.root, .int .i64 t.a.time, .int .i64 t.a.k, .slice a3 t.a.el.length c3, .slice a4 t.a.pl.length c4, .string t.b.log, .int .i64 t.b.size, .string t.b.root, .int .i64 t.b.time, .int .i64 t.b.k, .slice a5 t.b.el.length c5, .slice a6 t.b.pl.length c6, .slice a7 t.fl.length c7]) rfl (by kernel_rfl) (by kernel_rfl) (by kernel_rfl) (fun _ _ _ h => h) (yieldsIf_load_mid (by kernel_rfl) 31 (.tmp 1) rfl bw 0 rfl [.string t.log, .string t.key, .slice a0 t.en.length c0, .string t.h.log, .int .i64 t.h.size, .string t.h.root, .int .i64 t.h.time, .int .i64 t.h.k, .slice a1 t.h.el.length c1, .slice a2 t.h.pl.length c2, .slice ap l.length cp, .bool t.found, .string t.a.log, .int .i64 t.a.size, .string t.a.root, .int .i64 t.a.time, .int .i64 t.a.k, .slice a3 t.a.el.length c3, .slice a4 t.a.pl.length c4, .string t.b.log, .int .i64 t.b.size, .string t.b.root, .int .i64 t.b.time, .int .i64 t.b.k, .slice a5 t.b.el.length c5, .slice a6 t.b.pl.length c6, .slice a7 t.fl.length c7] _ (fun _ h => row_range h.2) Tryz.underlying31 rfl (by kernel_rfl)) (by assumption) ?_
  (try simp only [Act.put, List.setIfInBounds_toArray, List.set_cons_zero, List.set_cons_succ])
  refine wpAnyH_ready (rs := [2]) (by kernel_rfl) (by simp) ?_
  refine AllReadyH.cons (by simp only [List.getElem?_toArray, List.getElem?_cons_succ, List.getElem?_cons_zero]; rfl) (fun K hK => ?_) AllReadyH.nil
  go_simp
  go_at_call 6; (with_reducible refine (ET.out _ ?_).mono ?_); exact (M7.out.1.1.trans (below_drew' (Below.refl _ _))); intro e wy hto; obtain ⟨e0, e1, e2, e3, e4, e5, e6, e7, ep, f0, f1, f2, f3, f4, f5, f6, f7, mp, fp, n1, rfl, hx, hn0, hn9, hb⟩ := hto; have HY : Hid (XRows t l e0 e1 e2 e3 e4 e5 e6 e7 ep f0 f1 f2 f3 f4 f5 f6 f7 mp fp n1 wy.heap.size wy ∧ Below w7.heap.size w7 wy) := ⟨hx, below_drew hb⟩; clear hx hn0 hn9 hb
  go_wp2_with fail
  refine hK.out _ _ ?_ (fun hHeld => ?_)
  · exact HC.out _ HY.out.2
  clear hK K
  (try simp only [Act.put, List.setIfInBounds_toArray, List.set_cons_zero, List.set_cons_succ])
  refine wpAnyH_ready (rs := [3]) (by kernel_rfl) (by simp) ?_
  refine AllReadyH.cons (by simp only [List.getElem?_toArray, List.getElem?_cons_succ, List.getElem?_cons_zero]; rfl) (fun K hK => ?_) AllReadyH.nil
  go_simp
  go_at_call 9; (with_reducible refine (EQW.out _ _ _ _ _ _ _ _ _ _ _ _ _ _ _ _ _ _ _ _ wy HY.out.1 (M7.out.2.2.2.below HY.out.2)).mono ?_); rintro e wz ⟨rfl, hz⟩; have HZ : Hid (Below w7.heap.size w7 wz) := HY.out.2.trans (hz.mono HY.out.2.size); clear hz
  go_wp2_with fail
  refine hK.out _ _ ?_ (fun hHeld => ?_)
  · exact HC.out _ HZ.out
  clear hK K
  (try simp only [Act.put, List.setIfInBounds_toArray, List.set_cons_zero, List.set_cons_succ])
  refine wpAnyH_take (i := 4) (v := ?_) rfl (by kernel_rfl) (by kernel_rfl) (by kernel_rfl) (fun _ _ _ h => h) (Or.inl ⟨by kernel_rfl, ?_⟩) (by assumption) ?_
  rotate_left
  · (intro w' hSw; clear hSw; go_simp; (try with_reducible rfl))
  (try simp only [Act.put, List.setIfInBounds_toArray, List.set_cons_zero, List.set_cons_succ])
  refine wpAnyH_done (by kernel_rfl) ?_ _
  go_simp
  clear hHeld HC EQW HY
  have M8 : Hid (HMid W w3.heap.size X5.heap.size w6.heap.size vs vg l0 lg wz ∧ wz.heap[bx]? = some (.cells #[.string t.log, .string t.key, .slice b0 t.en.length d0, .string t.h.log, .int .i64 t.h.size, .string t.h.root, .int .i64 t.h.time, .int .i64 t.h.k, .slice b1 t.h.el.length d1, .slice b2 t.h.pl.length d2, .slice bp np dp, .bool t.found, .string t.a.log, .int .i64 t.a.size, .string t.a.root, .int .i64 t.a.time, .int .i64 t.a.k, .slice b3 t.a.el.length d3, .slice b4 t.a.pl.length d4, .string t.b.log, .int .i64 t.b.size, .string t.b.root, .int .i64 t.b.time, .int .i64 t.b.k, .slice b5 t.b.el.length d5, .slice b6 t.b.pl.length d6, .slice b7 t.fl.length d7] 41 (0, 0)) ∧ XRows t l b0 b1 b2 b3 b4 b5 b6 b7 bp d0 d1 d2 d3 d4 d5 d6 d7 np dp n0 n9 wz) := ⟨M7.out.1.below HZ.out, (HZ.out.block _ M7.out.2.1.2).trans M7.out.2.1.1, M7.out.2.2.2.below HZ.out⟩
  clear M7 HZ
  have s8 := M8.out.2.1
  go_wp2_with (first | (refine wpList_load_row rfl 41 (.tmp 5) rfl bx rfl _ _ _ _ s8 Tryz.underlying41 rfl (by kernel_rfl) ?_))
  clear s8
  refine (M8.out.2.2.mark HF.out.1 HF.out.2).mono ?_
  rintro e w9 ⟨⟨kx, rfl⟩, hi⟩
  have M9 : Hid (HMid W w3.heap.size X5.heap.size w6.heap.size vs vg l0 lg w9) := M8.out.1.aside hi HN.out.1 HN.out.2.1
  have hkx : ¬ (kx : Int) < 0 := by omega
  clear hi M8
  generalize (kx : Int) = kk at *
  go_wp2_with fail
  refine (EQ.out _ _ lg l0 _ M9.out.2.2.1.heads (M9.out.2.1.up M9.out.2.2.2.2.2) HMG.out HM0.out).mono ?_
  rintro e w10 ⟨rfl, hb⟩
  have M10 : Hid (HMid W w3.heap.size X5.heap.size w6.heap.size vs vg l0 lg w10) := M9.out.below hb
  have hcn := HCN.out lg HMG.out
  have E10 : Hid (Calls Tryz.prog 11 #[vg, .int .i64 1] w10 fun e w' => e = .returned (.int .i64 ((1 + cntHs lg : Nat) : Int)) ∧ HO X5.heap.size w6.heap.size vg (markHs 1 lg) w' ∧ Inside w10 w' X5.heap.size w6.heap.size) := markHeads_any vg lg 1 _ _ w10 M10.out.2.2.1 (by omega) hcn.1 hcn.2.1 hcn.2.2
  have EH : Hid (∀ X, HO X5.heap.size w6.heap.size vg (markHs 1 lg) X → Calls Tryz.prog 12 #[vg, .int .i64 1] X fun e w' => e = .returned (.int .i64 ((1 + cntHs lg : Nat) : Int)) ∧ Below X.heap.size X w') := fun X hX => heldHeads_any vg lg 1 _ _ X hX (by omega) hcn.1 hcn.2.1 hcn.2.2
  have hm0 : ¬ ((1 + cntHs lg : Nat) : Int) < 0 := by omega
  clear hb M9 hcn
  generalize ((1 + cntHs lg : Nat) : Int) = mm at *
  go_wp2_with fail
  refine E10.out.mono ?_
  rintro e w11 ⟨rfl, ho, hi⟩
  have M11 : Hid (HMid W w3.heap.size X5.heap.size w6.heap.size vs vg l0 (markHs 1 lg) w11) := M10.out.mark hi ho
  clear ho hi M10 E10
  go_wp2_with fail
  refine (EH.out _ M11.out.2.2.1).mono ?_
  rintro e w12 ⟨rfl, hb⟩
  have M12 : Hid (HMid W w3.heap.size X5.heap.size w6.heap.size vs vg l0 (markHs 1 lg) w12) := M11.out.below hb
  clear hb M11
  have r1 := HROW.out _ M12.out.1
  go_wp2_with (first | (refine wpList_load_row rfl 31 (.tmp 1) rfl bw rfl _ _ _ _ r1 Tryz.underlying31 rfl (by kernel_rfl) ?_))
  clear r1
  refine (ET.out _ M12.out.1).mono ?_
  intro e w13 hto
  obtain ⟨e0, e1, e2, e3, e4, e5, e6, e7, ep, f0, f1, f2, f3, f4, f5, f6, f7, mp, fp, n1, rfl, hx, hn0, hn9, hb⟩ := hto
  have M13 : Hid (HMid W w3.heap.size X5.heap.size w6.heap.size vs vg l0 (markHs 1 lg) w13) := M12.out.below hb
  have E13 : Hid (Calls Tryz.prog 7 #[.agg #[.string t.log, .string t.key, .slice e0 t.en.length f0, .string t.h.log, .int .i64 t.h.size, .string t.h.root, .int .i64 t.h.time, .int .i64 t.h.k, .slice e1 t.h.el.length f1, .slice e2 t.h.pl.length f2, .slice ep mp fp, .bool t.found, .string t.a.log, .int .i64 t.a.size, .string t.a.root, .int .i64 t.a.time, .int .i64 t.a.k, .slice e3 t.a.el.length f3, .slice e4 t.a.pl.length f4, .string t.b.log, .int .i64 t.b.size, .string t.b.root, .int .i64 t.b.time, .int .i64 t.b.k, .slice e5 t.b.el.length f5, .slice e6 t.b.pl.length f6, .slice e7 t.fl.length f7]] w13 (SharesOut L w13)) := EI.out _ _ _ _ _ _ _ _ _ _ _ _ _ _ _ _ _ _ _ _ _ w13 M13.out.1 hx
  clear hx hn0 hn9 hb M12 EI ET
  go_wp2_with fail
  refine E13.out.mono ?_
  intro e w14 hsh
  obtain ⟨vh, lh, rfl, ho, hm, hb⟩ := hsh
  have M14 : Hid (HMid W w3.heap.size X5.heap.size w6.heap.size vs vg l0 (markHs 1 lg) w14 ∧ Heads w14 w14.heap.size vh lh ∧ lh.map Hv.x = L) := ⟨M13.out.below hb, ho.heads, hm⟩
  clear ho hm hb M13 E13
  go_wp2_with fail
  refine (EQ.out _ _ lh l0 _ M14.out.2.1 (M14.out.1.2.1.up M14.out.1.2.2.2.2.2) M14.out.2.2 HM0.out).mono ?_
  rintro e w15 ⟨rfl, hb⟩
  have M15 : Hid (HMid W w3.heap.size X5.heap.size w6.heap.size vs vg l0 (markHs 1 lg) w15) := M14.out.1.below hb
  clear hb M14
  go_wp2_with fail
  refine (EH.out _ M15.out.2.2.1).mono ?_
  rintro e w16 ⟨rfl, hb⟩
  have M16 : Hid (Below W.heap.size W w16) := M15.out.1.trans (hb.mono M15.out.1.size)
  clear hb M15 EH
  go_wp2
  go_ret
  exact ⟨rfl, H0.out.1.trans (M16.out.mono H0.out.1.size)⟩
end Go.Proofs.YtcenlgfopmahcaaGreatDoor
