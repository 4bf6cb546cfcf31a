/-
  What a watcher shares, and what a watch does: the program's.
-/
import Derived.Test.YtcenlgfopmahcaaGreatDoorPkImplWants
import Derived.Test.YtcenlgfopmahcaaGreatDoorPkHeadsOwn
import Derived.Test.YtcenlgfopmahcaaGreatDoorPkHolding
import Derived.Test.YtcenlgfopmahcaaGreatDoorPkTextRows
import Derived.Test.YtcenlgfopmahcaaGreatDoorPkTexts
import Derived.Test.YtcenlgfopmahcaaGreatDoorPkPutText
import Derived.Deep.RegionWith
import Derived.Deep.RegionHeld3
namespace Go.Proofs.YtcenlgfopmahcaaGreatDoor
open Go.RowKit Go.Lib
set_option linter.unusedVariables false
set_option linter.unusedSimpArgs false

/-- What is shared. -/
def shareH (t : Wt) (ls : List Hd) : List Hd := if zeroX t.h t.h.el.length t.h.pl.length then ls else t.h :: ls
/-- What Shares answers. -/
def shareL (t : Wt) (l : List Hv) : List Hd := if t.rightB l then shareH t (l.map Hv.x) else []
/-- The answer lies in blocks of the call's own. -/
def SharesOut (ls : List Hd) (w : World) (e : Ending) (w' : World) : Prop :=
  ∃ v l', e = .returned v ∧ HO w.heap.size w'.heap.size v l' w' ∧ l'.map Hv.x = ls ∧ Below w.heap.size w w'
theorem SharesOut.on {ls : List Hd} {w w1 w' : World} {e : Ending} (h : SharesOut ls w1 e w') (hb : Below w.heap.size w w1) : SharesOut ls w e w' := by
  obtain ⟨v, l', he, ho, hm, hb2⟩ := h
  exact ⟨v, l', he, ho.wide hb.size (Nat.le_refl _) (Nat.le_refl _), hm, hb.trans (hb2.mono hb.size)⟩
/-- What a watcher holds can be read and is short. -/
def WHolds (t : Wt) (l : List Hv) (v0 v1 v2 v3 v4 v5 v6 v7 : Value) (w : World) : Prop :=
  t.In v0 v1 v2 v3 v4 v5 v6 v7 w w.heap.size ∧ (t.h.Lim ∧ Short t.h) ∧ ∀ j (hj : j < l.length), l[j].x.In l[j].e l[j].p w w.heap.size ∧ l[j].x.Lim ∧ Short l[j].x

set_option maxHeartbeats 4000000 in
set_option maxRecDepth 10000 in
theorem shares_any (g m : Nat) (t : Wt) (l : List Hv) (last : Int) (v0 v1 v2 v3 v4 v5 v6 v7 : Value) (w : World) (ha : WAt w g m t l v0 v1 v2 v3 v4 v5 v6 v7) (hd : WHolds t l v0 v1 v2 v3 v4 v5 v6 v7 w) (hr : Rising last l) (hlen : l.length ≤ 1000) (hn : HdsNum l) :
    Calls Tryz.prog 26 #[.pointer (some ⟨g, 0, none⟩)] w (SharesOut (shareH t (l.map Hv.x)) w) := by
  obtain ⟨hi, ⟨hf1, hf2⟩, hll⟩ := hd
  obtain ⟨a0, c0, rfl, z0⟩ := id hi.1
  obtain ⟨a1, c1, a2, c2, rfl, rfl⟩ := hi.2.1.parts
  obtain ⟨a3, c3, a4, c4, rfl, rfl⟩ := hi.2.2.1.parts
  obtain ⟨a5, c5, a6, c6, rfl, rfl⟩ := hi.2.2.2.1.parts
  obtain ⟨a7, c7, rfl, z7⟩ := id hi.2.2.2.2
  clear z0 z7
  have hglt := (Array.getElem?_eq_some_iff.1 ha.1).1
  have HWA : Hid (∀ X, Below w.heap.size w X → WAt X g m t l (.slice a0 t.en.length c0) (.slice a1 t.h.el.length c1) (.slice a2 t.h.pl.length c2) (.slice a3 t.a.el.length c3) (.slice a4 t.a.pl.length c4) (.slice a5 t.b.el.length c5) (.slice a6 t.b.pl.length c6) (.slice a7 t.fl.length c7)) := fun Y q => by
    refine ⟨(q.block _ hglt).trans ha.1, ?_, ha.2.2⟩
    have hlt := ha.2.1.lt
    obtain ⟨es, clock, hb, Ft, hs, hD⟩ := ha.2.1
    exact ⟨es, clock, (q.block _ hlt).trans hb, Ft, hs, hD⟩
  have E3 : Hid (∀ X, Below w.heap.size w X → Calls Tryz.prog 48 #[.pointer (some ⟨g, 0, none⟩)] X fun e w' => ∃ v l', e = .returned v ∧ WaitMid X l l' l.length v w') := fun X q => waiting_any g m l last X (row_here (HWA.out X q).1 10 _ rfl) (HWA.out X q).2.1 hr hlen (fun j hj => (hn j hj).1) fun j hj => ⟨(hll j hj).1.on q, (hll j hj).2.1, (hll j hj).2.2.1, (hll j hj).2.2.2⟩
  have E4 : Hid (∀ X, Calls Tryz.prog 47 #[.agg ([.slice a0 t.en.length c0, .string t.h.log, .int .i64 t.h.size, .string t.h.root, .int .i64 t.h.time, .int .i64 t.h.k, .slice a1 t.h.el.length c1, .slice a2 t.h.pl.length c2] : List Value).toArray] X fun e w' => e = .returned (.bool (zeroX t.h t.h.el.length t.h.pl.length)) ∧ Below X.heap.size X w') := fun X => headless_any t.h _ _ _ _ _ _ _ _ _ X
  have E5 : Hid (∀ X, Below w.heap.size w X → Calls Tryz.prog 49 #[.agg ([.string t.h.log, .int .i64 t.h.size, .string t.h.root, .int .i64 t.h.time, .int .i64 t.h.k, .slice a1 t.h.el.length c1, .slice a2 t.h.pl.length c2] : List Value).toArray] X fun e w' => HeadOwn X t.h.log t.h.size t.h.root t.h.time t.h.k t.h.el t.h.pl e w') := fun X q => headCopied_any t.h _ _ X (hi.on q).2.1 hf1 hf2.1 hf2.2
  have HX : Hid (∀ X, Below w.heap.size w X → X.rangeAt g 2 [.slice a0 t.en.length c0, .string t.h.log, .int .i64 t.h.size, .string t.h.root, .int .i64 t.h.time, .int .i64 t.h.k, .slice a1 t.h.el.length c1, .slice a2 t.h.pl.length c2] ∧ X.rangeAt g 3 [.string t.h.log, .int .i64 t.h.size, .string t.h.root, .int .i64 t.h.time, .int .i64 t.h.k, .slice a1 t.h.el.length c1, .slice a2 t.h.pl.length c2]) := fun X q => ⟨World.rangeAt_of_block (HWA.out X q).1 2 8, World.rangeAt_of_block (HWA.out X q).1 3 7⟩
  have HL : Hid (shareH t (l.map Hv.x) = if zeroX t.h t.h.el.length t.h.pl.length then l.map Hv.x else t.h :: l.map Hv.x) := rfl
  have X2 := (HX.out w (Below.refl _ _)).1
  have h5 : Hid (l.length ≤ 1000) := hlen
  clear hi ha hr hn hf1 hf2 hll hlen
  go_enter Tryz.func26, Tryz.ntmps26
  go_wp2_with (first | (refine wpList_load_mid rfl 82 (.tmp 5) rfl g 2 rfl [.slice a0 t.en.length c0, .string t.h.log, .int .i64 t.h.size, .string t.h.root, .int .i64 t.h.time, .int .i64 t.h.k, .slice a1 t.h.el.length c1, .slice a2 t.h.pl.length c2] _ X2 Tryz.underlying82 rfl (by kernel_rfl) ?_))
  clear X2
  refine (E4.out _).mono ?_
  rintro e w3 ⟨rfl, hb⟩
  have B3 : Hid (Below w.heap.size w w3) := hb
  clear hb E4
  generalize zeroX t.h t.h.el.length t.h.pl.length = Z at HL ⊢
  cases Z with
  | true =>
    have E6 : Hid (Calls Tryz.prog 48 #[.pointer (some ⟨g, 0, none⟩)] w3 fun e w' => ∃ v l', e = .returned v ∧ WaitMid w3 l l' l.length v w') := E3.out w3 B3.out
    clear E3 E5 HX HWA
    go_wp2_with fail
    refine E6.out.mono ?_
    rintro e w4 ⟨v, l', rfl, hwm⟩
    have HM : Hid (WaitMid w3 l l' l.length v w4) := hwm
    clear hwm E6
    go_wp2
    go_ret
    have hsz : w.heap.size ≤ w3.heap.size := B3.out.size
    have hho := HM.out.ho
    exact ⟨v, l', rfl, hho.1.wide hsz (Nat.le_refl _) (Nat.le_refl _), by rw [HL.out, hho.2]; rfl, B3.out.trans (HM.out.2.2.2.2.mono hsz)⟩
  | false =>
    have X3 := (HX.out w3 B3.out).2
    go_wp2_with (first | (refine wpList_load_mid rfl 37 (.tmp 13) rfl g 3 rfl [.string t.h.log, .int .i64 t.h.size, .string t.h.root, .int .i64 t.h.time, .int .i64 t.h.k, .slice a1 t.h.el.length c1, .slice a2 t.h.pl.length c2] _ X3 Tryz.underlying37 rfl (by kernel_rfl) ?_))
    clear X3
    refine (E5.out w3 B3.out).mono ?_
    rintro e w4 ⟨ue, up, nn, rfl, o1, o2, hne0, hm1, _, hb4⟩
    obtain ⟨b1, d1, rfl⟩ := o1.len
    obtain ⟨b2, d2, rfl⟩ := o2.len
    obtain ⟨q, hq⟩ : ∃ q : Hv, q = ⟨t.h, .slice b1 t.h.el.length d1, .slice b2 t.h.pl.length d2⟩ := ⟨_, rfl⟩
    obtain ⟨X4, hX4⟩ : ∃ X, X = w4.alloc (.cells #[.string t.h.log, .int .i64 t.h.size, .string t.h.root, .int .i64 t.h.time, .int .i64 t.h.k, .slice b1 t.h.el.length d1, .slice b2 t.h.pl.length d2] 37) := ⟨_, rfl⟩
    have hal : Below w4.heap.size w4 X4 := by rw [hX4]; exact (Below.refl _ _).alloc (Nat.le_refl _) _
    have hz4 : X4.heap.size = w4.heap.size + 1 := by rw [hX4]; simp
    have hb34 : Below w3.heap.size w3 X4 := hb4.trans (hal.mono hb4.size)
    have B4 : Hid (Below w.heap.size w X4) := B3.out.trans (hb34.mono B3.out.size)
    have hrow : HRow X4 w4.heap.size (.slice (some ⟨w4.heap.size, 0, none⟩) 1 1) [q] := by
      rw [hX4, hq]
      exact HRow.one w4 w4.heap.size ⟨t.h, .slice b1 t.h.el.length d1, .slice b2 t.h.pl.length d2⟩ (Nat.le_refl _)
    have hqn : ∀ g, q.e.ownBlock = some g → q.p.ownBlock ≠ some g := fun g hg he => by
      rw [hq] at hg he
      have h1 := hne0 g hg
      have h2 := (World.ownsRow.lt o2 g he).1
      omega
    have HR4 : Hid (HRow X4 w4.heap.size (.slice (some ⟨w4.heap.size, 0, none⟩) 1 1) [q] ∧ q.x = t.h ∧ OwnT X4 w3.heap.size q.e q.x.el ∧ OwnT X4 w3.heap.size q.p q.x.pl ∧ X4.heap.size = w4.heap.size + 1 ∧ w3.heap.size ≤ w4.heap.size ∧ (∀ g, q.e.ownBlock = some g → q.p.ownBlock ≠ some g)) := ⟨hrow, by rw [hq], by rw [hq]; exact o1.below hal (Nat.le_refl _), by rw [hq]; exact (o2.lower hm1).below hal (Nat.le_refl _), hz4, hb4.size, hqn⟩
    have E6 : Hid (Calls Tryz.prog 48 #[.pointer (some ⟨g, 0, none⟩)] X4 fun e w' => ∃ v l', e = .returned v ∧ WaitMid X4 l l' l.length v w') := E3.out X4 B4.out
    have HX4 : Hid (X4 = w4.alloc (.cells #[.string t.h.log, .int .i64 t.h.size, .string t.h.root, .int .i64 t.h.time, .int .i64 t.h.k, .slice b1 t.h.el.length d1, .slice b2 t.h.pl.length d2] 37)) := hX4
    clear E3 E5 HX HWA o1 o2 hm1 hb4 hal hz4 hb34 hrow hX4 hq hne0 hqn
    go_wp2_with fail
    rw [← HX4.out]
    refine E6.out.mono ?_
    rintro e w5 ⟨v, l', rfl, hwm⟩
    have hg5 : Below X4.heap.size X4 w5 := hwm.2.2.2.2
    have hs4 : w4.heap.size ≤ X4.heap.size := by have := HR4.out.2.2.2.2.1; omega
    have HM : Hid (WaitMid X4 l l' l.length v w5) := hwm
    have HR5 : Hid (HRow w5 w4.heap.size (.slice (some ⟨w4.heap.size, 0, none⟩) 1 1) [q]) := HR4.out.1.below hg5
    have HH5 : Hid (Heads w5 w5.heap.size v l') := HM.out.row.1.heads HM.out.2.2.2.1
    have HLN : Hid (l'.length ≤ 1000 ∧ w4.heap.size ≤ w5.heap.size) := ⟨by rw [hwm.1]; exact h5.out, Nat.le_trans hs4 hg5.size⟩
    clear hwm hg5 hs4 E6 HX4
    go_wp2_with (refine wp_app_heads rfl (.tmp 16) (.tmp 18) rfl w4.heap.size (.slice (some ⟨w4.heap.size, 0, none⟩) 1 1) v [q] l' rfl HR5.out rfl HH5.out (by simp) (by have := HLN.out.1; omega) HLN.out.2 ?_; intro v' w6 hr6 hg6; have H6 : Hid (HRow w6 w4.heap.size v' ([q] ++ l') ∧ w5.grownBy w6 (some w4.heap.size)) := ⟨hr6, hg6⟩; clear hr6 hg6)
    go_ret
    have hsz : w.heap.size ≤ w3.heap.size := B3.out.size
    have hs4 : w3.heap.size ≤ w4.heap.size := HR4.out.2.2.2.2.2.1
    have hg5 : Below X4.heap.size X4 w5 := HM.out.2.2.2.2
    have hbl : ∀ b, some w4.heap.size = some b → ∃ cs t fz, w5.heap[b]? = some (.cells cs t fz) ∧ t ≠ 9 := fun b hb => by
      obtain rfl := Option.some.inj hb
      rcases HR5.out.2 with ⟨h1, _⟩ | ⟨gg, cap, cur, h1, _, hgg, _⟩
      · cases h1
      · simp only [Value.slice.injEq, Option.some.injEq, Addr.mk.injEq] at h1
        rw [← h1.1.1] at hgg
        exact ⟨cur, 37, (0, 0), hgg, by decide⟩
    have hq5 : OwnT w5 w3.heap.size q.e q.x.el ∧ OwnT w5 w3.heap.size q.p q.x.pl := ⟨HR4.out.2.2.1.below hg5 (Nat.le_refl _), HR4.out.2.2.2.1.below hg5 (Nat.le_refl _)⟩
    have hlt4 : ∀ b ∈ blk q.e ++ blk q.p, b < X4.heap.size := fun b hb => by
      rcases List.mem_append.1 hb with h3 | h3
      · exact (World.ownsRow.lt HR4.out.2.2.1 b (mem_blk.1 h3)).2
      · exact (World.ownsRow.lt HR4.out.2.2.2.1 b (mem_blk.1 h3)).2
    have hho := HM.out.ho
    have htx : ∀ y ∈ q :: l', HTxt w6 w.heap.size y := fun y hy => by
      rcases List.mem_cons.1 hy with rfl | hy
      · exact ⟨(hq5.1.grownH H6.out.2 hbl).lower hsz, (hq5.2.grownH H6.out.2 hbl).lower hsz⟩
      · have h1 := hho.1.2.1 y hy
        have hsX : w.heap.size ≤ X4.heap.size := B4.out.size
        exact ⟨(h1.1.grownH H6.out.2 hbl).lower hsX, (h1.2.grownH H6.out.2 hbl).lower hsX⟩
    refine ⟨v', q :: l', rfl, ⟨H6.out.1.lower (Nat.le_trans hsz hs4), htx, ?_, fun g hg => (World.ownsRow.lt H6.out.1 g hg).2, fun g hg => ?_, Nat.le_refl _⟩, by rw [HL.out, List.map_cons, HM.out.row.2, HR4.out.2.1]; rfl, ?_⟩
    · show ((blk q.e ++ blk q.p) ++ blks l').Nodup
      rw [List.nodup_append]
      refine ⟨?_, hho.1.2.2.1, fun a ha b hb e => ?_⟩
      · rw [List.nodup_append]
        exact ⟨blk_nodup _, blk_nodup _, fun a ha b hb e => HR4.out.2.2.2.2.2.2 a (mem_blk.1 ha) (by rw [e]; exact mem_blk.1 hb)⟩
      · have h1 := hlt4 a ha
        have h2 := hho.1.bd b hb
        omega
    · obtain ⟨y, hy, hg2⟩ := List.mem_flatMap.1 hg
      exact ((htx y hy).bd g hg2).2
    · exact below_own (B4.out.trans (hg5.mono B4.out.size)) H6.out.2 (Nat.le_trans hsz hs4)

set_option maxHeartbeats 4000000 in
set_option maxRecDepth 10000 in
theorem implShares_any (t : Wt) (l : List Hv) (v0 v1 v2 vp v3 v4 v5 v6 v7 : Value) (w : World) (hi : t.In v0 v1 v2 v3 v4 v5 v6 v7 w w.heap.size) (hh : Heads w w.heap.size vp l) (hf : t.Lens) (hl : HdsLim l) (hn : t.Nums) (hnl : HdsNum l) (hK : Keys w) (hS : Sentinel w) :
    Calls Tryz.prog 7 #[.agg #[.string t.log, .string t.key, v0, .string t.h.log, .int .i64 t.h.size, .string t.h.root, .int .i64 t.h.time, .int .i64 t.h.k, v1, v2, vp, .bool t.found, .string t.a.log, .int .i64 t.a.size, .string t.a.root, .int .i64 t.a.time, .int .i64 t.a.k, v3, v4, .string t.b.log, .int .i64 t.b.size, .string t.b.root, .int .i64 t.b.time, .int .i64 t.b.k, v5, v6, v7]] w (SharesOut (shareL t l) w) := by
  obtain ⟨a0, c0, rfl, z0⟩ := id hi.1
  obtain ⟨a1, c1, a2, c2, rfl, rfl⟩ := hi.2.1.parts
  obtain ⟨⟨ap, cp, rfl, hcap, hc⟩, hin⟩ := id hh
  obtain ⟨a3, c3, a4, c4, rfl, rfl⟩ := hi.2.2.1.parts
  obtain ⟨a5, c5, a6, c6, rfl, rfl⟩ := hi.2.2.2.1.parts
  obtain ⟨a7, c7, rfl, z7⟩ := id hi.2.2.2.2
  clear z0 z7
  obtain ⟨W, hW⟩ : ∃ W, W = w.alloc (.cells #[.string t.log, .string t.key, .slice a0 t.en.length c0, .string t.h.log, .int .i64 t.h.size, .string t.h.root, .int .i64 t.h.time, .int .i64 t.h.k, .slice a1 t.h.el.length c1, .slice a2 t.h.pl.length c2, .slice ap l.length cp, .bool t.found, .string t.a.log, .int .i64 t.a.size, .string t.a.root, .int .i64 t.a.time, .int .i64 t.a.k, .slice a3 t.a.el.length c3, .slice a4 t.a.pl.length c4, .string t.b.log, .int .i64 t.b.size, .string t.b.root, .int .i64 t.b.time, .int .i64 t.b.k, .slice a5 t.b.el.length c5, .slice a6 t.b.pl.length c6, .slice a7 t.fl.length c7] 41) := ⟨_, rfl⟩
  have hbW : Below w.heap.size w W := by rw [hW]; exact (Below.refl _ _).alloc (Nat.le_refl _) _
  have k0 : W.heap[w.heap.size]? = some (.cells #[.string t.log, .string t.key, .slice a0 t.en.length c0, .string t.h.log, .int .i64 t.h.size, .string t.h.root, .int .i64 t.h.time, .int .i64 t.h.k, .slice a1 t.h.el.length c1, .slice a2 t.h.pl.length c2, .slice ap l.length cp, .bool t.found, .string t.a.log, .int .i64 t.a.size, .string t.a.root, .int .i64 t.a.time, .int .i64 t.a.k, .slice a3 t.a.el.length c3, .slice a4 t.a.pl.length c4, .string t.b.log, .int .i64 t.b.size, .string t.b.root, .int .i64 t.b.time, .int .i64 t.b.k, .slice a5 t.b.el.length c5, .slice a6 t.b.pl.length c6, .slice a7 t.fl.length c7] 41 (0, 0)) := by rw [hW]; exact heap_alloc_new w _
  have hlt0 := (Array.getElem?_eq_some_iff.1 k0).1
  have hKW : Keys W := hK.below hbW hK.lt
  have hSW : Sentinel W := hS.on hbW
  have E1 : Hid (Calls Tryz.prog 24 #[.agg #[.string t.log, .string t.key, .slice a0 t.en.length c0, .string t.h.log, .int .i64 t.h.size, .string t.h.root, .int .i64 t.h.time, .int .i64 t.h.k, .slice a1 t.h.el.length c1, .slice a2 t.h.pl.length c2, .slice ap l.length cp, .bool t.found, .string t.a.log, .int .i64 t.a.size, .string t.a.root, .int .i64 t.a.time, .int .i64 t.a.k, .slice a3 t.a.el.length c3, .slice a4 t.a.pl.length c4, .string t.b.log, .int .i64 t.b.size, .string t.b.root, .int .i64 t.b.time, .int .i64 t.b.k, .slice a5 t.b.el.length c5, .slice a6 t.b.pl.length c6, .slice a7 t.fl.length c7]] W fun e w' => e = .returned (.bool (t.rightB l)) ∧ Below W.heap.size W w') := implWatchRight_any t l _ _ _ _ _ _ _ _ _ W (hi.on hbW) (hh.on hbW) hf hl hn hnl hKW hSW
  have E2 : Hid (t.rightB l = true → ∀ X, Below W.heap.size W X → Calls Tryz.prog 25 #[.agg #[.string t.log, .string t.key, .slice a0 t.en.length c0, .string t.h.log, .int .i64 t.h.size, .string t.h.root, .int .i64 t.h.time, .int .i64 t.h.k, .slice a1 t.h.el.length c1, .slice a2 t.h.pl.length c2, .slice ap l.length cp, .bool t.found, .string t.a.log, .int .i64 t.a.size, .string t.a.root, .int .i64 t.a.time, .int .i64 t.a.k, .slice a3 t.a.el.length c3, .slice a4 t.a.pl.length c4, .string t.b.log, .int .i64 t.b.size, .string t.b.root, .int .i64 t.b.time, .int .i64 t.b.k, .slice a5 t.b.el.length c5, .slice a6 t.b.pl.length c6, .slice a7 t.fl.length c7]] X fun e w' => ∃ m g, e = .returned (.pointer (some ⟨g, 0, none⟩)) ∧ WAt w' g m t l (.slice a0 t.en.length c0) (.slice a1 t.h.el.length c1) (.slice a2 t.h.pl.length c2) (.slice a3 t.a.el.length c3) (.slice a4 t.a.pl.length c4) (.slice a5 t.b.el.length c5) (.slice a6 t.b.pl.length c6) (.slice a7 t.fl.length c7) ∧ Below W.heap.size W w') := fun hr X q => (watcherOf_any t l _ _ _ _ _ _ _ _ _ X ((hi.on hbW).on q) ((hh.on hbW).on q) (fun j hj => (hnl j hj).1) (by have := (Wt.rightB_pool hr).1; omega)).mono fun e w' h => by
    obtain ⟨m, g, he, ha, _, hb⟩ := h
    exact ⟨m, g, he, ha, q.trans (hb.mono q.size)⟩
  have E3 : Hid (t.rightB l = true → ∀ g m X, Below W.heap.size W X → WAt X g m t l (.slice a0 t.en.length c0) (.slice a1 t.h.el.length c1) (.slice a2 t.h.pl.length c2) (.slice a3 t.a.el.length c3) (.slice a4 t.a.pl.length c4) (.slice a5 t.b.el.length c5) (.slice a6 t.b.pl.length c6) (.slice a7 t.fl.length c7) → Calls Tryz.prog 26 #[.pointer (some ⟨g, 0, none⟩)] X (SharesOut (shareH t (l.map Hv.x)) X)) := fun hr g m X q ha => shares_any g m t l t.en.length _ _ _ _ _ _ _ _ X ha ⟨(hi.on hbW).on q, ⟨hf.2.2.2.1, (Wt.rightB_short hr).1⟩, fun j hj => ⟨((hh.on hbW).on q).2 j hj, hl.2 j hj, (Wt.rightB_short hr).2 j hj⟩⟩ (Wt.rightB_pool hr).2 (by have := (Wt.rightB_pool hr).1; omega) hnl
  have HC : Hid (∀ X, Below W.heap.size W X → X.heap[w.heap.size]? = some (.cells #[.string t.log, .string t.key, .slice a0 t.en.length c0, .string t.h.log, .int .i64 t.h.size, .string t.h.root, .int .i64 t.h.time, .int .i64 t.h.k, .slice a1 t.h.el.length c1, .slice a2 t.h.pl.length c2, .slice ap l.length cp, .bool t.found, .string t.a.log, .int .i64 t.a.size, .string t.a.root, .int .i64 t.a.time, .int .i64 t.a.k, .slice a3 t.a.el.length c3, .slice a4 t.a.pl.length c4, .string t.b.log, .int .i64 t.b.size, .string t.b.root, .int .i64 t.b.time, .int .i64 t.b.k, .slice a5 t.b.el.length c5, .slice a6 t.b.pl.length c6, .slice a7 t.fl.length c7] 41 (0, 0))) := fun X q => (q.block _ hlt0).trans k0
  have H0 : Hid (Below w.heap.size w W) := hbW
  have HW : Hid (W = w.alloc (.cells #[.string t.log, .string t.key, .slice a0 t.en.length c0, .string t.h.log, .int .i64 t.h.size, .string t.h.root, .int .i64 t.h.time, .int .i64 t.h.k, .slice a1 t.h.el.length c1, .slice a2 t.h.pl.length c2, .slice ap l.length cp, .bool t.found, .string t.a.log, .int .i64 t.a.size, .string t.a.root, .int .i64 t.a.time, .int .i64 t.a.k, .slice a3 t.a.el.length c3, .slice a4 t.a.pl.length c4, .string t.b.log, .int .i64 t.b.size, .string t.b.root, .int .i64 t.b.time, .int .i64 t.b.k, .slice a5 t.b.el.length c5, .slice a6 t.b.pl.length c6, .slice a7 t.fl.length c7] 41)) := hW
  obtain ⟨b, hb⟩ : ∃ b, b = w.heap.size := ⟨_, rfl⟩
  have HB : Hid (b = w.heap.size) := hb
  have r0 := HC.out W (Below.refl _ _)
  rw [← hb] at HC r0
  have HL : Hid (shareL t l = if t.rightB l then shareH t (l.map Hv.x) else []) := rfl
  clear hi hh hf hl hn hnl hK hS hKW hSW hc hcap hin hW hbW k0 hlt0 hb
  generalize hP : t.rightB l = P at *
  have E1' : Hid (Calls Tryz.prog 24 #[.agg #[.string t.log, .string t.key, .slice a0 t.en.length c0, .string t.h.log, .int .i64 t.h.size, .string t.h.root, .int .i64 t.h.time, .int .i64 t.h.k, .slice a1 t.h.el.length c1, .slice a2 t.h.pl.length c2, .slice ap l.length cp, .bool t.found, .string t.a.log, .int .i64 t.a.size, .string t.a.root, .int .i64 t.a.time, .int .i64 t.a.k, .slice a3 t.a.el.length c3, .slice a4 t.a.pl.length c4, .string t.b.log, .int .i64 t.b.size, .string t.b.root, .int .i64 t.b.time, .int .i64 t.b.k, .slice a5 t.b.el.length c5, .slice a6 t.b.pl.length c6, .slice a7 t.fl.length c7]] W fun e w' => e = .returned (.bool P) ∧ Below W.heap.size W w') := E1
  clear hP E1
  go_enter Tryz.func7, Tryz.ntmps7
  go_wp2_with (first | (rw [← HW.out, ← HB.out]; refine load_row_g (by kernel_rfl) 41 (.tmp 1) rfl b rfl _ _ _ _ r0 Tryz.underlying41 rfl (by kernel_rfl) ?_))
  clear HW HB r0
  refine E1'.out.mono ?_
  rintro e w1 ⟨rfl, hb⟩
  have B1 : Hid (Below W.heap.size W w1) := hb
  clear hb E1'
  cases P with
  | false =>
    clear E2 E3 HC
    go_wp2
    go_ret
    exact ⟨_, [], rfl, HO.nil _ _ _ (Nat.le_refl _), by rw [HL.out]; rfl, H0.out.trans (B1.out.mono H0.out.size)⟩
  | true =>
    have E2' : Hid (∀ X, Below W.heap.size W X → Calls Tryz.prog 25 #[.agg #[.string t.log, .string t.key, .slice a0 t.en.length c0, .string t.h.log, .int .i64 t.h.size, .string t.h.root, .int .i64 t.h.time, .int .i64 t.h.k, .slice a1 t.h.el.length c1, .slice a2 t.h.pl.length c2, .slice ap l.length cp, .bool t.found, .string t.a.log, .int .i64 t.a.size, .string t.a.root, .int .i64 t.a.time, .int .i64 t.a.k, .slice a3 t.a.el.length c3, .slice a4 t.a.pl.length c4, .string t.b.log, .int .i64 t.b.size, .string t.b.root, .int .i64 t.b.time, .int .i64 t.b.k, .slice a5 t.b.el.length c5, .slice a6 t.b.pl.length c6, .slice a7 t.fl.length c7]] X fun e w' => ∃ m g, e = .returned (.pointer (some ⟨g, 0, none⟩)) ∧ WAt w' g m t l (.slice a0 t.en.length c0) (.slice a1 t.h.el.length c1) (.slice a2 t.h.pl.length c2) (.slice a3 t.a.el.length c3) (.slice a4 t.a.pl.length c4) (.slice a5 t.b.el.length c5) (.slice a6 t.b.pl.length c6) (.slice a7 t.fl.length c7) ∧ Below W.heap.size W w') := E2.out rfl
    have E3' : Hid (∀ g m X, Below W.heap.size W X → WAt X g m t l (.slice a0 t.en.length c0) (.slice a1 t.h.el.length c1) (.slice a2 t.h.pl.length c2) (.slice a3 t.a.el.length c3) (.slice a4 t.a.pl.length c4) (.slice a5 t.b.el.length c5) (.slice a6 t.b.pl.length c6) (.slice a7 t.fl.length c7) → Calls Tryz.prog 26 #[.pointer (some ⟨g, 0, none⟩)] X (SharesOut (shareH t (l.map Hv.x)) X)) := E3.out rfl
    have r0 := HC.out _ B1.out
    clear E2 E3 HC
    go_wp2_with (first | (refine load_row_g (by kernel_rfl) 41 (.tmp 1) rfl b rfl _ _ _ _ r0 Tryz.underlying41 rfl (by kernel_rfl) ?_))
    clear r0
    refine (E2'.out _ B1.out).mono ?_
    rintro e w2 ⟨m, g, rfl, ha, hb⟩
    have B2 : Hid (Below W.heap.size W w2) := hb
    have E4 : Hid (Calls Tryz.prog 26 #[.pointer (some ⟨g, 0, none⟩)] w2 (SharesOut (shareH t (l.map Hv.x)) w2)) := E3'.out g m w2 hb ha
    clear hb ha E2' E3'
    go_wp2_with fail
    refine E4.out.mono ?_
    intro e w3 hs
    obtain ⟨v, l', rfl, ho, hm, hb⟩ := hs
    have HS : Hid (HO w2.heap.size w3.heap.size v l' w3 ∧ l'.map Hv.x = shareH t (l.map Hv.x) ∧ Below w2.heap.size w2 w3) := ⟨ho, hm, hb⟩
    clear ho hm hb E4
    go_wp2
    go_ret
    have hb2 := H0.out.trans (B2.out.mono H0.out.size)
    exact ⟨v, l', rfl, HS.out.1.wide hb2.size (Nat.le_refl _) (Nat.le_refl _), by rw [HL.out]; exact HS.out.2.1, hb2.trans (HS.out.2.2.mono hb2.size)⟩
end Go.Proofs.YtcenlgfopmahcaaGreatDoor

/-
  The document's HeadRight.
-/
namespace Go.Proofs.YtcenlgfopmahcaaGreatDoor
open Go.RowKit Go.Lib
set_option linter.unusedVariables false
set_option linter.unusedSimpArgs false

set_option maxHeartbeats 2000000 in
set_option maxRecDepth 10000 in
theorem specHeadRight_any (log root : ByteArray) (size time k : Int) (ve vp : Value) (el pl : List ByteArray) (w : World) (h1 : Texts w w.heap.size ve el) (h2 : Texts w w.heap.size vp pl) (hl1 : el.length ≤ 1048576) (hl2 : pl.length ≤ 1048576) (hlog : log.size ≤ 1048576) (hroot : root.size ≤ 1048576) :
    Calls Tryz.prog 69 #[.agg #[.string log, .int .i64 size, .string root, .int .i64 time, .int .i64 k, ve, vp]] w fun e w' => e = .returned (.bool (headRB log size root time k el pl)) ∧ Below w.heap.size w w' := by
  have E0 : Hid (∀ w, Calls Tryz.prog 36 #[.string log] w fun e w' => e = .returned (.bool (nameB log)) ∧ w' = w) := fun w => (specName_any log w (by unfold maxLen; omega)).mono fun e w' h => ⟨h.1.name, h.2⟩
  have E1 : Hid (∀ w, Calls Tryz.prog 86 #[.int .i64 size, .int .i64 0, .int .i64 64] w fun e w' => e = .returned (.bool (decide (0 ≤ size ∧ size ≤ 64))) ∧ w' = w) := fun w => is_any size 0 64 w
  have E3 : Hid (∀ w, Calls Tryz.prog 86 #[.int .i64 time, .int .i64 0, .int .i64 1000000000] w fun e w' => e = .returned (.bool (decide (0 ≤ time ∧ time ≤ 1000000000))) ∧ w' = w) := fun w => is_any time 0 1000000000 w
  obtain ⟨a1, c1, rfl, _⟩ := id h1
  obtain ⟨a2, c2, rfl, _⟩ := id h2
  obtain ⟨W, hW⟩ : ∃ W, W = w.alloc (.cells #[.string log, .int .i64 size, .string root, .int .i64 time, .int .i64 k, .slice a1 el.length c1, .slice a2 pl.length c2] 37) := ⟨_, rfl⟩
  have hbW : Below w.heap.size w W := by rw [hW]; exact (Below.refl _ _).alloc (Nat.le_refl _) _
  have E4 : Hid (Calls Tryz.prog 87 #[.agg #[.int .i64 k, .slice a1 el.length c1, .slice a2 pl.length c2]] W fun e w' => e = .returned (.bool (sigRB k el pl)) ∧ Below w.heap.size w w') := (specSigRight_any k _ _ el pl W ((h1.below hbW).up hbW.size) ((h2.below hbW).up hbW.size) hl1 hl2).mono fun e w' h => ⟨h.1, hbW.trans (h.2.mono hbW.size)⟩
  have HB : Hid (Below w.heap.size w W) := hbW
  rw [hW] at E4 HB
  clear hW hbW W h1 h2
  unfold headRB claimB
  generalize nameB log = bn at *
  generalize decide (0 ≤ size ∧ size ≤ 64) = bz at *
  generalize decide (0 ≤ time ∧ time ≤ 1000000000) = bt at *
  generalize sigRB k el pl = bs at *
  cases bn with
  | false =>
    go_enter Tryz.func69, Tryz.ntmps69
    go_wp2_with fail
    refine (E0.out _).mono ?_
    rintro e w0 ⟨rfl, rfl⟩
    go_wp2
    go_ret
    exact ⟨rfl, HB.out⟩
  | true =>
    cases bz with
    | false =>
      go_enter Tryz.func69, Tryz.ntmps69
      go_wp2_with fail
      refine (E0.out _).mono ?_
      rintro e w0 ⟨rfl, rfl⟩
      go_wp2_with fail
      refine (E1.out _).mono ?_
      rintro e w0 ⟨rfl, rfl⟩
      go_wp2
      go_ret
      exact ⟨rfl, HB.out⟩
    | true =>
      by_cases h32 : (root.size : Int) = 32
      · rw [decide_eq_true h32]
        have q1 : ((root.size : Int) == 32) = true := by simpa using h32
        clear h32
        cases bt with
        | false =>
          go_enter Tryz.func69, Tryz.ntmps69
          go_wp2_with fail
          refine (E0.out _).mono ?_
          rintro e w0 ⟨rfl, rfl⟩
          go_wp2_with fail
          refine (E1.out _).mono ?_
          rintro e w0 ⟨rfl, rfl⟩
          go_wp2_with fail
          refine (E3.out _).mono ?_
          rintro e w0 ⟨rfl, rfl⟩
          go_wp2
          go_ret
          exact ⟨rfl, HB.out⟩
        | true =>
          go_enter Tryz.func69, Tryz.ntmps69
          go_wp2_with fail
          refine (E0.out _).mono ?_
          rintro e w0 ⟨rfl, rfl⟩
          go_wp2_with fail
          refine (E1.out _).mono ?_
          rintro e w0 ⟨rfl, rfl⟩
          go_wp2_with fail
          refine (E3.out _).mono ?_
          rintro e w0 ⟨rfl, rfl⟩
          go_wp2_with fail
          refine E4.out.mono ?_
          rintro e w1 ⟨rfl, hb1⟩
          go_wp2
          go_ret
          exact ⟨rfl, hb1⟩
      · rw [decide_eq_false h32]
        have q1 : ((root.size : Int) == 32) = false := by simpa using h32
        clear h32
        go_enter Tryz.func69, Tryz.ntmps69
        go_wp2_with fail
        refine (E0.out _).mono ?_
        rintro e w0 ⟨rfl, rfl⟩
        go_wp2_with fail
        refine (E1.out _).mono ?_
        rintro e w0 ⟨rfl, rfl⟩
        go_wp2
        go_ret
        exact ⟨rfl, HB.out⟩
end Go.Proofs.YtcenlgfopmahcaaGreatDoor

/-
  The document's HeadText.
-/
namespace Go.Proofs.YtcenlgfopmahcaaGreatDoor
open Go.RowKit Go.Lib
set_option linter.unusedVariables false
set_option linter.unusedSimpArgs false

set_option maxHeartbeats 4000000 in
set_option maxRecDepth 10000 in
theorem l05Text_any (log root : ByteArray) (size time k : Int) (a1 a2 : Option Addr) (n1 c1 n2 c2 : Nat) (w : World) (hlog : log.size ≤ 1048576) (hroot : root.size ≤ 1048576) (hs : -9223372036854775808 ≤ size ∧ size ≤ 9223372036854775807) (ht : -9223372036854775808 ≤ time ∧ time ≤ 9223372036854775807) :
    Calls Tryz.prog 71 #[.agg #[.string log, .int .i64 size, .string root, .int .i64 time, .int .i64 k, .slice a1 n1 c1, .slice a2 n2 c2]] w fun e w' => e = .returned (.string (headT log size root time)) ∧ Below w.heap.size w w' := by
  have E0 : Hid (∀ w, Calls Tryz.prog 91 #[.string log] w fun e w' => e = .returned (.string (putText log)) ∧ Below w.heap.size w w') := fun w => specPutText_any log w hlog
  have E1 : Hid (∀ w, Calls Tryz.prog 92 #[.int .i64 size] w fun e w' => e = .returned (.string (numT size)) ∧ Below w.heap.size w w') := fun w => specPutNum_any size w hs.1 hs.2
  have E2 : Hid (∀ w, Calls Tryz.prog 91 #[.string root] w fun e w' => e = .returned (.string (putText root)) ∧ Below w.heap.size w w') := fun w => specPutText_any root w hroot
  have E3 : Hid (∀ w, Calls Tryz.prog 92 #[.int .i64 time] w fun e w' => e = .returned (.string (numT time)) ∧ Below w.heap.size w w') := fun w => specPutNum_any time w ht.1 ht.2
  have z0 := putText_size log
  have z1 := putNum_size size
  have z2 := putText_size root
  have z3 := putNum_size time
  unfold headT
  unfold numT at *
  generalize putText log = t0 at *
  generalize (⟨(putNum size).toArray⟩ : ByteArray) = t1 at *
  generalize putText root = t2 at *
  generalize (⟨(putNum time).toArray⟩ : ByteArray) = t3 at *
  have q1 : ¬ 9223372036854775807 < t0.size + t1.size := by omega
  have q2 : ¬ 9223372036854775807 < t0.size + t1.size + t2.size := by omega
  have q3 : ¬ 9223372036854775807 < t0.size + t1.size + t2.size + t3.size := by omega
  have q4 : ¬ 9223372036854775807 < (t0 ++ t1).size + t2.size := by rw [ba_size]; omega
  have q5 : ¬ 9223372036854775807 < (t0 ++ t1 ++ t2).size + t3.size := by rw [ba_size, ba_size]; omega
  clear hlog hroot hs ht z0 z1 z2 z3
  obtain ⟨W, hW⟩ : ∃ W, W = w.alloc (.cells #[.string log, .int .i64 size, .string root, .int .i64 time, .int .i64 k, .slice a1 n1 c1, .slice a2 n2 c2] 37) := ⟨_, rfl⟩
  have H0 : Hid (Below w.heap.size w W ∧ W.heap[w.heap.size]? = some (.cells #[.string log, .int .i64 size, .string root, .int .i64 time, .int .i64 k, .slice a1 n1 c1, .slice a2 n2 c2] 37 (0, 0)) ∧ w.heap.size < W.heap.size) := by
    rw [hW]
    exact ⟨(Below.refl _ _).alloc (Nat.le_refl _) _, heap_alloc_new w _, by simp⟩
  have HW : Hid (W = w.alloc (.cells #[.string log, .int .i64 size, .string root, .int .i64 time, .int .i64 k, .slice a1 n1 c1, .slice a2 n2 c2] 37)) := hW
  clear hW
  have HC : Hid (∀ W', Below W.heap.size W W' → (W'.cell? ⟨w.heap.size, 0, none⟩ = some (.string log) ∧ W'.cell? ⟨w.heap.size, 1, none⟩ = some (.int .i64 size) ∧ W'.cell? ⟨w.heap.size, 2, none⟩ = some (.string root) ∧ W'.cell? ⟨w.heap.size, 3, none⟩ = some (.int .i64 time)) ∧ (W'.drew.cell? ⟨w.heap.size, 0, none⟩ = some (.string log) ∧ W'.drew.cell? ⟨w.heap.size, 1, none⟩ = some (.int .i64 size) ∧ W'.drew.cell? ⟨w.heap.size, 2, none⟩ = some (.string root) ∧ W'.drew.cell? ⟨w.heap.size, 3, none⟩ = some (.int .i64 time))) := fun W' hb => by
    obtain ⟨⟨c0, c1, c2, c3, _, _, _⟩, _⟩ := seven_cells hb H0.out.2.2 H0.out.2.1
    exact ⟨⟨c0, c1, c2, c3⟩, c0, c1, c2, c3⟩
  have G0 : Hid (∀ W', Below W.heap.size W W' → Calls Tryz.prog 91 #[.string log] W' fun e w'' => e = .returned (.string t0) ∧ Below W.heap.size W w'') := fun W' hb => (E0.out W').mono fun e w'' h => ⟨h.1, hb.trans (h.2.mono hb.size)⟩
  have G1 : Hid (∀ W', Below W.heap.size W W' → Calls Tryz.prog 92 #[.int .i64 size] W' fun e w'' => e = .returned (.string t1) ∧ Below W.heap.size W w'') := fun W' hb => (E1.out W').mono fun e w'' h => ⟨h.1, hb.trans (h.2.mono hb.size)⟩
  have G2 : Hid (∀ W', Below W.heap.size W W' → Calls Tryz.prog 91 #[.string root] W' fun e w'' => e = .returned (.string t2) ∧ Below W.heap.size W w'') := fun W' hb => (E2.out W').mono fun e w'' h => ⟨h.1, hb.trans (h.2.mono hb.size)⟩
  have G3 : Hid (∀ W', Below W.heap.size W W' → Calls Tryz.prog 92 #[.int .i64 time] W' fun e w'' => e = .returned (.string t3) ∧ Below W.heap.size W w'') := fun W' hb => (E3.out W').mono fun e w'' h => ⟨h.1, hb.trans (h.2.mono hb.size)⟩
  have HB0 : Hid (Below W.heap.size W W) := Below.refl _ _
  have HD0 : Hid (Below W.heap.size W W.drew) := below_drew' (Below.refl _ _)
  obtain ⟨⟨c0, c1', c2', c3⟩, d0, d1, d2, d3⟩ := HC.out W (Below.refl _ _)
  clear E0 E1 E2 E3
  go_enter Tryz.func71, Tryz.ntmps71
  go_wp2_with fail
  rw [← HW.out]
  clear HW
  go_region_held3 (fun w' => w'.cell? ⟨w.heap.size, 0, none⟩ = some (.string log) ∧ w'.cell? ⟨w.heap.size, 1, none⟩ = some (.int .i64 size) ∧ w'.cell? ⟨w.heap.size, 2, none⟩ = some (.string root) ∧ w'.cell? ⟨w.heap.size, 3, none⟩ = some (.int .i64 time)) (go_keep)
    (first
      | (go_at_call 91; (with_reducible refine (G0.out _ ?_).mono ?_); (first | exact HB0.out | exact HD0.out); rintro e wa ⟨rfl, hia⟩; have HA1 : Hid (Below W.heap.size W wa) := hia; obtain ⟨⟨x0, x1, x2, x3⟩, _⟩ := HC.out _ hia; clear hia)
      | (go_at_call 92; (with_reducible refine (G1.out _ ?_).mono ?_); exact HA1.out; rintro e wb ⟨rfl, hia⟩; have HA2 : Hid (Below W.heap.size W wb) := hia; obtain ⟨⟨y0, y1, y2, y3⟩, _⟩ := HC.out _ hia; clear hia)
      | (go_at_call 91; (with_reducible refine (G2.out _ ?_).mono ?_); exact HA2.out; rintro e wc ⟨rfl, hia⟩; have HA3 : Hid (Below W.heap.size W wc) := hia; obtain ⟨⟨z0, z1, z2, z3⟩, _⟩ := HC.out _ hia; clear hia)
      | (go_at_call 92; (with_reducible refine (G3.out _ ?_).mono ?_); exact HA3.out; rintro e wd ⟨rfl, hia⟩; have HA4 : Hid (Below W.heap.size W wd) := hia; obtain ⟨⟨u0, u1, u2, u3⟩, _⟩ := HC.out _ hia; clear hia))
  all_goals
    go_wp2
    go_ret
    exact ⟨rfl, H0.out.1.trans (HA4.out.mono H0.out.1.size)⟩
end Go.Proofs.YtcenlgfopmahcaaGreatDoor
