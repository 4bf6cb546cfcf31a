/-
  The heads of a pool that waits: their copies, by their sizes.
-/
import Derived.Test.YtcenlgfopmahcaaGreatDoorPkSizes
import Derived.Test.YtcenlgfopmahcaaGreatDoorPkPoolMap
import Derived.Test.YtcenlgfopmahcaaGreatDoorPkHeadsTo
import Derived.Test.YtcenlgfopmahcaaGreatDoorPkCopyHead
import Derived.Test.YtcenlgfopmahcaaGreatDoorPkTextRows
import Derived.Test.YtcenlgfopmahcaaGreatDoorPkHdV
import Derived.Test.YtcenlgfopmahcaaGreatDoorPkAgrees
import Derived.Test.YtcenlgfopmahcaaGreatDoorPkCells
import Derived.Test.YtcenlgfopmahcaaGreatDoorPkImplTree
import Derived.Test.YtcenlgfopmahcaaGreatDoorPkShaPure
import Derived.Laws.AppendOwn
namespace Go.Proofs.YtcenlgfopmahcaaGreatDoor
open Go.RowKit Go.Lib
open Go.Maps
set_option linter.unusedVariables false
set_option linter.unusedSimpArgs false

theorem find_ents : ∀ {l : List Hv} {last : Int} {k : Nat} (hk : k < l.length), Rising last l → (ents l).find? (fun p => p.1.sameKey (.int .i64 l[k].x.size)) = some (.int .i64 l[k].x.size, .held l[k].val)
  | q :: r, last, 0, hk, h => by
    simp [ents, Lit.sameKey]
  | q :: r, last, k + 1, hk, h => by
    have hk' : k < r.length := by simpa using hk
    have hlt : q.x.size < r[k].x.size := h.2.all _ (List.getElem_mem hk')
    have hne : ¬ q.x.size = r[k].x.size := by omega
    have := find_ents hk' h.2
    simp only [ents, List.map_cons, List.getElem_cons_succ] at this ⊢
    rw [List.find?_cons_of_neg (by simp [Lit.sameKey, hne])]
    exact this
theorem pool_at {l : List Hv} {last : Int} {k : Nat} (hk : k < l.length) (h : Rising last l) (zd : DataW Value) : (poolD l).atKey (.int .i64 l[k].x.size) zd = .held l[k].val := by
  rw [poolD_rising h]
  simp only [DataW.atKey, find_ents hk h]
theorem OwnT.grownH {w w' : World} {B : Nat} {r : Option Nat} {v : Value} {l : List ByteArray} (h : OwnT w B v l) (hg : w.grownBy w' r) (hr : ∀ b, r = some b → ∃ cs t fz, w.heap[b]? = some (.cells cs t fz) ∧ t ≠ 9) : OwnT w' B v l := by
  cases r with
  | none => exact h.below ⟨hg.os, hg.tape, hg.output, hg.size, fun k hk => hg.block k hk (by simp)⟩ (Nat.le_refl _)
  | some b =>
    obtain ⟨cs, t, fz, hp, ht⟩ := hr b rfl
    exact h.past hg hp ht
/-- k of the heads lie in a row of the call's own. -/
def WaitMid (w : World) (l l' : List Hv) (k : Nat) (v : Value) (X : World) : Prop :=
  l'.length = k ∧ (l'.map Hv.x = (l.take k).map Hv.x ∧ (blks l').Nodup) ∧ X.ownsRow w.heap.size 37 7 v k (l'.flatMap Hv.cells) ∧ (∀ j (hj : j < l'.length), OwnT X w.heap.size l'[j].e l'[j].x.el ∧ OwnT X w.heap.size l'[j].p l'[j].x.pl) ∧ Below w.heap.size w X
theorem WaitMid.start (w X : World) (l : List Hv) (hb : Below w.heap.size w X) : WaitMid w l [] 0 (.slice none 0 0) X := ⟨rfl, ⟨by simp, List.nodup_nil⟩, World.ownsRow_nil _ _ _ _, fun j hj => absurd hj (by simp), hb⟩
theorem WaitMid.put {w : World} {l l' : List Hv} {k : Nat} {v v' : Value} {X Y Z : World} {q : Hv} (h : WaitMid w l l' k v X) (hk : k < l.length) (hx : q.x = l[k].x) (hb : Below X.heap.size X Y) (h1 : OwnT Y X.heap.size q.e q.x.el) (h2 : OwnT Y X.heap.size q.p q.x.pl) (hne : ∀ g, q.e.ownBlock = some g → q.p.ownBlock ≠ some g)
    (hr : Z.ownsRow w.heap.size 37 7 v' (k + 1) (l'.flatMap Hv.cells ++ q.cells)) (hg : Y.grownBy Z v.ownBlock) : WaitMid w l (l' ++ [q]) (k + 1) v' Z := by
  obtain ⟨e1, ⟨e2, en⟩, hrow, ho, hw⟩ := h
  have hwX := hw.size
  have hbl : ∀ b, v.ownBlock = some b → ∃ cs t fz, Y.heap[b]? = some (.cells cs t fz) ∧ t ≠ 9 := fun b hv => by
    rcases hrow.2 with ⟨rfl, _⟩ | ⟨g, cap, cur, rfl, hB, hgg, _⟩
    · simp [Value.ownBlock] at hv
    · simp [Value.ownBlock] at hv
      subst hv
      exact ⟨cur, 37, (0, 0), (hb.block _ (Array.getElem?_eq_some_iff.1 hgg).1).trans hgg, by decide⟩
  refine ⟨by simp [e1], ⟨?_, ?_⟩, ?_, ?_, ?_⟩
  · rw [List.map_append, e2, List.take_succ_eq_append_getElem hk, List.map_append]
    simp [hx]
  · refine blks_snoc en hne fun a ha b hb => ?_
    obtain ⟨q', hq', ha2⟩ := List.mem_flatMap.1 ha
    obtain ⟨j, hj, rfl⟩ := List.getElem_of_mem hq'
    have hlt : a < X.heap.size := by
      rcases List.mem_append.1 ha2 with h3 | h3
      · exact (World.ownsRow.lt (ho j hj).1 a (mem_blk.1 h3)).2
      · exact (World.ownsRow.lt (ho j hj).2 a (mem_blk.1 h3)).2
    have hge : X.heap.size ≤ b := by
      rcases List.mem_append.1 hb with h3 | h3
      · exact (World.ownsRow.lt h1 b (mem_blk.1 h3)).1
      · exact (World.ownsRow.lt h2 b (mem_blk.1 h3)).1
    omega
  · rw [List.flatMap_append]
    simpa using hr
  · intro j hj
    by_cases hjl : j < l'.length
    · rw [List.getElem_append_left hjl]
      exact ⟨((ho j hjl).1.below hb (Nat.le_refl _)).grownH hg hbl, ((ho j hjl).2.below hb (Nat.le_refl _)).grownH hg hbl⟩
    · have ej : j = l'.length := by simp at hj; omega
      subst ej
      rw [List.getElem_append_right (Nat.le_refl _)]
      simp only [Nat.sub_self, List.getElem_cons_zero]
      exact ⟨(h1.grownH hg hbl).lower hwX, (h2.grownH hg hbl).lower hwX⟩
  · have hwY : Below w.heap.size w Y := hw.trans (hb.mono hwX)
    exact ⟨hg.os.trans hwY.os, hg.tape.trans hwY.tape, hg.output.trans hwY.output, Nat.le_trans hwY.size hg.size, fun i hi => (hg.block i (Nat.lt_of_lt_of_le hi hwY.size) (fun e => by have := (hrow.lt i e.symm).1; omega)).trans (hwY.block i hi)⟩
theorem ownsRow_below {X Y : World} {B d n : Nat} {e : TypeId} {v : Value} {xs : List Value} (h : X.ownsRow B e d v n xs) (hb : Below X.heap.size X Y) : Y.ownsRow B e d v n xs := by
  refine ⟨h.1, ?_⟩
  rcases h.2 with hn | ⟨g, cap, cur, rfl, hB, hg, rest⟩
  · exact .inl hn
  · exact .inr ⟨g, cap, cur, rfl, hB, (hb.block _ (Array.getElem?_eq_some_iff.1 hg).1).trans hg, rest⟩
theorem ownsRow_lower {X : World} {B B' d n : Nat} {e : TypeId} {v : Value} {xs : List Value} (h : X.ownsRow B e d v n xs) (hb : B' ≤ B) : X.ownsRow B' e d v n xs := by
  refine ⟨h.1, ?_⟩
  rcases h.2 with hn | ⟨g, cap, cur, rfl, hB, rest⟩
  · exact .inl hn
  · exact .inr ⟨g, cap, cur, rfl, Nat.le_trans hb hB, rest⟩
theorem WaitMid.under {w w1 : World} {l l' : List Hv} {k : Nat} {v : Value} {X : World} (h : WaitMid w1 l l' k v X) (hb : Below w.heap.size w w1) : WaitMid w l l' k v X := by
  obtain ⟨e1, e2, hrow, ho, hw⟩ := h
  exact ⟨e1, e2, ownsRow_lower hrow hb.size, fun j hj => ⟨(ho j hj).1.lower hb.size, (ho j hj).2.lower hb.size⟩, hb.trans (hw.mono hb.size)⟩
/-- What the program knows of a head's cells. -/
theorem head_info : ∃ i z, Tryz.prog.info? 37 = some i ∧ i.zero = some z ∧ i.size = 7 ∧ i.bytes = 104 ∧ z.cells.size = 7 := by
  have h : (Tryz.prog.info? 37).bind (fun i => i.zero.map fun z => decide (i.size = 7 ∧ i.bytes = 104 ∧ z.cells.size = 7)) = some true := by kernel_rfl
  obtain ⟨i, hi, h2⟩ := Option.bind_eq_some_iff.1 h
  obtain ⟨z, hz, h3⟩ := Option.map_eq_some_iff.1 h2
  exact ⟨i, z, hi, hz, of_decide_eq_true h3⟩

set_option maxHeartbeats 2000000 in
set_option maxRecDepth 10000 in
theorem waiting_any (g m : Nat) (l : List Hv) (last : Int) (w : World) (hc : w.cell? ⟨g, 10, none⟩ = some (.map (some m))) (hm : w.ownsMap Tryz.prog 2 heldR m l.length (poolD l)) (hr : Rising last l) (hlen : l.length ≤ 1000) (hn : ∀ j (hj : j < l.length), -9223372036854775808 ≤ l[j].x.size ∧ l[j].x.size ≤ 9223372036854775807)
    (hi : ∀ j (hj : j < l.length), l[j].x.In l[j].e l[j].p w w.heap.size ∧ l[j].x.Lim ∧ (∀ i (hi : i < l[j].x.el.length), l[j].x.el[i].size ≤ 1048576) ∧ ∀ i (hi : i < l[j].x.pl.length), l[j].x.pl[i].size ≤ 1048576) :
    Calls Tryz.prog 48 #[.pointer (some ⟨g, 0, none⟩)] w fun e w' => ∃ v l', e = .returned v ∧ WaitMid w l l' l.length v w' := by
  have hsz := poolD_size hr
  have hmlt := hm.lt
  have hglt : g < w.heap.size := by
    by_cases h : g < w.heap.size
    · exact h
    · simp [World.cell?, Array.getElem?_eq_none (Nat.le_of_not_lt h)] at hc
  have E0 : Hid (Calls Tryz.prog 66 #[.pointer (some ⟨g, 0, none⟩)] w fun e w' => ∃ (v : Value) (ss : List Int), e = .returned v ∧ ss.Perm (intKeys (poolD l)) ∧ w'.ownsRow w.heap.size 2 1 v ss.length ((ss.mergeSort (fun x y => decide (x ≤ y))).map encZ) ∧ (v = .slice none 0 0 ↔ ss = []) ∧ Below w.heap.size w w') := sizes_any g m l.length (poolD l) heldR w hc hm (by rw [hsz]; omega)
  have HS : Hid (∀ ss : List Int, ss.Perm (intKeys (poolD l)) → ss.mergeSort (fun x y => decide (x ≤ y)) = l.map fun q => q.x.size) := fun ss hp => sizes_sorted hr hp
  have HK : Hid (∀ ss : List Int, ss.Perm (intKeys (poolD l)) → ss.length = l.length) := fun ss hp => by
    have := hp.length_eq
    rw [poolD_keys hr] at this
    simpa using this
  have HM : Hid (∀ X, Below w.heap.size w X → X.cell? ⟨g, 10, none⟩ = some (.map (some m)) ∧ ∀ k (hk : k < l.length), (Instr.lookup 80 (.map (some m)) (.int .i64 l[k].x.size) false).run Tryz.prog X = .ok l[k].val X) := fun X q => by
    refine ⟨by simpa [World.cell?, q.block _ hglt] using hc, fun k hk => ?_⟩
    have hX : X.ownsMap Tryz.prog 2 heldR m l.length (poolD l) := by
      obtain ⟨es, clock, hb, Ft, hs, hD⟩ := hm
      exact ⟨es, clock, (q.block _ hmlt).trans hb, Ft, hs, hD⟩
    obtain ⟨v, ps, hrun, hv⟩ := hX.lookup (t := 80) (e := 37) (z := .agg #[.string ⟨#[]⟩, .int .i64 0, .string ⟨#[]⟩, .int .i64 0, .int .i64 0, .slice none 0 0, .slice none 0 0]) keys64 Tryz.underlying80 (by rfl) (zd := .held (.agg #[.string ⟨#[]⟩, .int .i64 0, .string ⟨#[]⟩, .int .i64 0, .int .i64 0, .slice none 0 0, .slice none 0 0])) (zp := []) rfl (keyOf_int_mk Tryz.underlying2 (wf_bd (hn k hk)))
    rw [pool_at hk hr] at hv
    have hv2 : v = l[k].val := by
      have := congrArg Prod.fst (Option.some.inj hv)
      simpa using this
    rw [hrun, hv2]
  have HI : Hid (∀ X, Below w.heap.size w X → ∀ k (hk : k < l.length), Calls Tryz.prog 49 #[.agg #[.string l[k].x.log, .int .i64 l[k].x.size, .string l[k].x.root, .int .i64 l[k].x.time, .int .i64 l[k].x.k, l[k].e, l[k].p]] X fun e w' => HeadOwn X l[k].x.log l[k].x.size l[k].x.root l[k].x.time l[k].x.k l[k].x.el l[k].x.pl e w') := fun X q k hk => headCopied_any l[k].x l[k].e l[k].p X (((hi k hk).1.below q).up q.size) (hi k hk).2.1 (hi k hk).2.2.1 (hi k hk).2.2.2
  have HP : Hid (∀ k (hk : k < l.length) l' v v' X Y Z (q : Hv), WaitMid w l l' k v X → q.x = l[k].x → Below X.heap.size X Y → OwnT Y X.heap.size q.e q.x.el → OwnT Y X.heap.size q.p q.x.pl → (∀ g, q.e.ownBlock = some g → q.p.ownBlock ≠ some g) → Z.ownsRow w.heap.size 37 7 v' (k + 1) (l'.flatMap Hv.cells ++ q.cells) → Y.grownBy Z v.ownBlock → WaitMid w l (l' ++ [q]) (k + 1) v' Z) := fun k hk l' v v' X Y Z q h hx hb h1 h2 hne hr hg => h.put hk hx hb h1 h2 hne hr hg
  clear hc hm hr hi hn hsz hmlt hglt
  obtain ⟨n, hnn⟩ : ∃ n, n = l.length := ⟨_, rfl⟩
  have HN : Hid (n = l.length) := hnn
  rw [← hnn] at hlen ⊢
  clear hnn
  go_enter Tryz.func48, Tryz.ntmps48
  go_wp2_with fail
  refine E0.out.mono ?_
  rintro e w1 ⟨vs, ss, rfl, hp, hrow, _, hb⟩
  rw [HS.out ss hp, HK.out ss hp, ← HN.out] at hrow
  have HB : Hid (Below w.heap.size w w1) := hb
  have HR : Hid (w1.ownsRow w.heap.size 2 1 vs n ((l.map fun q => q.x.size).map encZ)) := hrow
  obtain ⟨sa, cs, rfl, hgs⟩ : ∃ sa cs, vs = .slice sa n cs ∧ (n = 0 ∨ ∃ gs, sa = some ⟨gs, 0, none⟩ ∧ gs < w1.heap.size ∧ ∀ X, Below w1.heap.size w1 X → ∀ k (hk : k < l.length), X.cell? ⟨gs, k, none⟩ = some (.int .i64 l[k].x.size)) := by
    rcases id hrow.2 with ⟨rfl, h0⟩ | ⟨gs, cap, cur, rfl, _, hgg, _⟩
    · exact ⟨none, 0, by rw [h0], .inl h0⟩
    · have hgl := (Array.getElem?_eq_some_iff.1 hgg).1
      refine ⟨_, cap, rfl, .inr ⟨gs, rfl, hgl, fun X q k hk => ?_⟩⟩
      have h1 := hrow.cells (g := gs) rfl k (.int .i64 l[k].x.size) (by simp [hk, encZ])
      have hadd : (⟨gs, 0, none⟩ : Addr).add k = ⟨gs, k, none⟩ := by unfold Addr.add; split <;> simp_all
      rw [hadd] at h1
      simpa [World.cell?, q.block _ hgl] using h1
  have HG : Hid (n = 0 ∨ ∃ gs, sa = some ⟨gs, 0, none⟩ ∧ gs < w1.heap.size ∧ ∀ X, Below w1.heap.size w1 X → ∀ k (hk : k < l.length), X.cell? ⟨gs, k, none⟩ = some (.int .i64 l[k].x.size)) := hgs
  clear hp hrow hb hgs E0 HS HK HR
  have HIQ : Hid (∀ X, Below w1.heap.size w1 X → Below w.heap.size w X) := fun X q => HB.out.trans (q.mono HB.out.size)
  have H1 : Hid (WaitMid w1 l [] 0 (.slice none 0 0) w1) := WaitMid.start w1 w1 l (Below.refl _ _)
  obtain ⟨i0, z0, hi0, hz0, hz1, hz2, hz3⟩ := head_info
  have HZ : Hid (Tryz.prog.info? 37 = some i0 ∧ i0.zero = some z0 ∧ i0.size = 7 ∧ i0.bytes = 104 ∧ z0.cells.size = 7) := ⟨hi0, hz0, hz1, hz2, hz3⟩
  clear hi0 hz0 hz1 hz2 hz3
  go_wp2
  go_loopw [3, 9] (fun o i wr => ∃ (k : Nat) (l' : List Hv) (ov : Value), k ≤ n ∧ i = .int .i64 k ∧ ov = o ∧ WaitMid w1 l l' k ov wr) (fun _ i _ => n - (RowKit.intOf i).toNat)
  case atStart => exact ⟨0, [], _, Nat.zero_le _, rfl, rfl, H1.out⟩
  case round =>
    clear H1
    obtain ⟨k, l', ov, hk, rfl, rfl, hmid⟩ := hrel
    have HMid : Hid (WaitMid w1 l l' k ov wr) := hmid
    clear hmid
    by_cases hkn : k < n
    · have hkl : k < l.length := by rw [← HN.out]; exact hkn
      rcases HG.out with h0 | ⟨gs, rfl, hgl, hgc⟩
      · omega
      have q1 := HMid.out.2.2.2.2
      have c0 := hgc wr q1 k hkl
      obtain ⟨m0, lk⟩ := HM.out wr (HIQ.out wr q1)
      have lk0 : (Instr.lookup 80 (.map (some m)) (.int .i64 l[k].x.size) false).run Tryz.prog wr = .ok (.agg #[.string l[k].x.log, .int .i64 l[k].x.size, .string l[k].x.root, .int .i64 l[k].x.time, .int .i64 l[k].x.k, l[k].e, l[k].p]) wr := lk k hkl
      have E1 : Hid (Calls Tryz.prog 49 #[.agg #[.string l[k].x.log, .int .i64 l[k].x.size, .string l[k].x.root, .int .i64 l[k].x.time, .int .i64 l[k].x.k, l[k].e, l[k].p]] wr fun e w' => HeadOwn wr l[k].x.log l[k].x.size l[k].x.root l[k].x.time l[k].x.k l[k].x.el l[k].x.pl e w') := HI.out wr (HIQ.out wr q1) k hkl
      have HQ : Hid (∀ v' Y Z (q : Hv), q.x = l[k].x → Below wr.heap.size wr Y → OwnT Y wr.heap.size q.e q.x.el → OwnT Y wr.heap.size q.p q.x.pl → (∀ g, q.e.ownBlock = some g → q.p.ownBlock ≠ some g) → Z.ownsRow w1.heap.size 37 7 v' (k + 1) (l'.flatMap Hv.cells ++ q.cells) → Y.grownBy Z ov.ownBlock → WaitMid w1 l (l' ++ [q]) (k + 1) v' Z) := fun v' Y Z q hx hb h1 h2 hne hr hg => HMid.out.put hkl hx hb h1 h2 hne hr hg
      have hknI : (k : Int) < (n : Int) := by omega
      clear lk hgc q1
      generalize l[k].e = ve at *
      generalize l[k].p = vp at *
      generalize l[k].x = x at *
      go_wp2_with fail
      refine E1.out.mono ?_
      rintro e w2 ⟨ue, up, nn, rfl, o1, o2, hne0, hm1, _, hb2⟩
      have hne : ∀ g, ue.ownBlock = some g → up.ownBlock ≠ some g := fun g hg he => by have h1 := hne0 g hg; have h2 := (World.ownsRow.lt o2 g he).1; omega
      clear hne0
      obtain ⟨a1, c1, rfl⟩ := o1.len
      obtain ⟨a2, c2, rfl⟩ := o2.len
      have hbY : Below wr.heap.size wr (w2.alloc (.cells #[.string x.log, .int .i64 x.size, .string x.root, .int .i64 x.time, .int .i64 x.k, .slice a1 x.el.length c1, .slice a2 x.pl.length c2] 37)) := hb2.alloc hb2.size _
      have hal : Below w2.heap.size w2 (w2.alloc (.cells #[.string x.log, .int .i64 x.size, .string x.root, .int .i64 x.time, .int .i64 x.k, .slice a1 x.el.length c1, .slice a2 x.pl.length c2] 37)) := (Below.refl _ _).alloc (Nat.le_refl _) _
      have HO : Hid ((w2.alloc (.cells #[.string x.log, .int .i64 x.size, .string x.root, .int .i64 x.time, .int .i64 x.k, .slice a1 x.el.length c1, .slice a2 x.pl.length c2] 37)).ownsRow w1.heap.size 37 7 ov k (l'.flatMap Hv.cells)) := ownsRow_below HMid.out.2.2.1 hbY
      have HCL : Hid (∀ (j : Nat) u, ([.string x.log, .int .i64 x.size, .string x.root, .int .i64 x.time, .int .i64 x.k, .slice a1 x.el.length c1, .slice a2 x.pl.length c2] : List Value)[j]? = some u → (w2.alloc (.cells #[.string x.log, .int .i64 x.size, .string x.root, .int .i64 x.time, .int .i64 x.k, .slice a1 x.el.length c1, .slice a2 x.pl.length c2] 37)).cell? ((⟨w2.heap.size, 0, none⟩ : Addr).add j) = some u) := fun j u hu => by
        have := row_here (heap_alloc_new w2 (.cells #[.string x.log, .int .i64 x.size, .string x.root, .int .i64 x.time, .int .i64 x.k, .slice a1 x.el.length c1, .slice a2 x.pl.length c2] 37)) j u (by simpa using hu)
        have hadd : (⟨w2.heap.size, 0, none⟩ : Addr).add j = ⟨w2.heap.size, j, none⟩ := by unfold Addr.add; split <;> simp_all
        rw [hadd]
        exact this
      have HQ2 : Hid (∀ v' Z, Z.ownsRow w1.heap.size 37 7 v' (k + 1) (l'.flatMap Hv.cells ++ [.string x.log, .int .i64 x.size, .string x.root, .int .i64 x.time, .int .i64 x.k, .slice a1 x.el.length c1, .slice a2 x.pl.length c2]) → (w2.alloc (.cells #[.string x.log, .int .i64 x.size, .string x.root, .int .i64 x.time, .int .i64 x.k, .slice a1 x.el.length c1, .slice a2 x.pl.length c2] 37)).grownBy Z ov.ownBlock → WaitMid w1 l (l' ++ [⟨x, .slice a1 x.el.length c1, .slice a2 x.pl.length c2⟩]) (k + 1) v' Z) := fun v' Z hr hg => HQ.out v' _ Z ⟨x, .slice a1 x.el.length c1, .slice a2 x.pl.length c2⟩ rfl hbY (o1.below hal (Nat.le_refl _)) ((o2.lower hm1).below hal (Nat.le_refl _)) hne hr hg
      have HSZ : Hid (w1.heap.size ≤ w2.heap.size + 1 ∧ k ≤ 1000) := ⟨by have h1 := HMid.out.2.2.2.2.size; have h2 := hb2.size; omega, by omega⟩
      clear o1 o2 hm1 hb2 hbY hal HQ E1 HMid hne
      go_wp2_with (refine wpList_append_own _ rfl (.tmp 13) (.tmp 21) 33 rfl w1.heap.size 37 i0 z0 7 104 Tryz.underlying33 HZ.out.1 HZ.out.2.1 HZ.out.2.2.1 HZ.out.2.2.2.1 HZ.out.2.2.2.2 (by decide) ov k (l'.flatMap Hv.cells) rfl HO.out ⟨w2.heap.size, 0, none⟩ 1 1 [.string x.log, .int .i64 x.size, .string x.root, .int .i64 x.time, .int .i64 x.k, .slice a1 x.el.length c1, .slice a2 x.pl.length c2] rfl rfl HCL.out (by simp [Value.oneCell']) (by have := HSZ.out.2; unfold maxLen; omega) (by have := HSZ.out.2; omega) (by simpa using HSZ.out.1) ?_; intro v' w3 hr3 hg3 _; have H3 : Hid (WaitMid w1 l (l' ++ [⟨x, .slice a1 x.el.length c1, .slice a2 x.pl.length c2⟩]) (k + 1) v' w3) := HQ2.out v' w3 hr3 hg3; clear hr3 hg3 HQ2 HCL HO)
      go_roundw
      case rel => exact ⟨k + 1, _, v', by omega, by go_num, rfl, H3.out⟩
      case measure => simp [RowKit.intOf]; omega
    · have ek : k = n := by omega
      subst ek
      have HD : Hid (WaitMid w l l' k ov wr) := HMid.out.under HB.out
      clear HMid HI HP HM HG HN
      go_wp2
      go_ret
      exact ⟨_, l', rfl, HD.out⟩
end Go.Proofs.YtcenlgfopmahcaaGreatDoor

/-
  The document's copy of a signature.
-/
namespace Go.Proofs.YtcenlgfopmahcaaGreatDoor
open Go.RowKit Go.Lib
set_option linter.unusedVariables false
set_option linter.unusedSimpArgs false

/-- An empty row of texts, made. -/
theorem ownT_empty (w : World) (B : Nat) (hB : B ≤ w.heap.size) : OwnT (w.alloc (.cells #[] 9)) B (.slice (some ⟨w.heap.size, 0, none⟩) 0 0) [] := by
  refine ⟨rfl, .inr ⟨w.heap.size, 0, #[], rfl, hB, heap_alloc_new w _, Nat.le_refl _, by unfold maxLen; omega, rfl, rfl⟩⟩
/-- A row of texts, just made, laid into a struct of the call's own. -/
theorem appPut {w W w1 : World} {b0 i : Nat} {cs : Array Value} {T : TypeId} {v1 : Value} {l1 : List ByteArray} (hcs : W.heap[b0]? = some (.cells cs T (0, 0))) (hT : T ≠ 9) (hbW : Below w.heap.size w W) (hb0 : w.heap.size ≤ b0) (ho1 : OwnT w1 W.heap.size v1 l1) (hb1 : Below W.heap.size W w1) :
    OwnT (w1.setCell ⟨b0, i, none⟩ v1) W.heap.size v1 l1 ∧ Below w.heap.size w (w1.setCell ⟨b0, i, none⟩ v1) ∧ (w1.setCell ⟨b0, i, none⟩ v1).heap[b0]? = some (.cells (cs.setIfInBounds i v1) T (0, 0)) ∧ (w1.setCell ⟨b0, i, none⟩ v1).heap.size = w1.heap.size ∧ W.heap.size ≤ w1.heap.size ∧ w1.heap[b0]? = some (.cells cs T (0, 0)) := by
  have hlt := (Array.getElem?_eq_some_iff.1 hcs).1
  have h1 : w1.heap[b0]? = some (.cells cs T (0, 0)) := (hb1.block _ hlt).trans hcs
  have hg : w1.grownBy (w1.setCell ⟨b0, i, none⟩ v1) (some b0) := grown_cell (rd_refl _ _) i _
  refine ⟨ho1.past hg h1 hT, below_own (hbW.trans (hb1.mono hbW.size)) hg hb0, ?_, size_put _ _ _, hb1.size, h1⟩
  rw [setCell_eq_setRow w1 b0 i cs T (0, 0) v1 h1]
  exact setRow_heap w1 b0 cs _ T _ h1
/-- And an empty row made behind. -/
theorem appNext {w W w1 Y : World} {b0 i : Nat} {cs : Array Value} {T : TypeId} {v1 : Value} {l1 : List ByteArray} (hcs : W.heap[b0]? = some (.cells cs T (0, 0))) (hT : T ≠ 9) (hbW : Below w.heap.size w W) (hb0 : w.heap.size ≤ b0) (ho1 : OwnT w1 W.heap.size v1 l1) (hb1 : Below W.heap.size W w1)
    (hY : Y = (w1.setCell ⟨b0, i, none⟩ v1).alloc (.cells #[] 9)) :
    (OwnT Y W.heap.size v1 l1 ∧ OwnT Y w1.heap.size (.slice (some ⟨w1.heap.size, 0, none⟩) 0 0) []) ∧ Below w.heap.size w Y ∧ Y.heap[b0]? = some (.cells (cs.setIfInBounds i v1) T (0, 0)) ∧ Y.heap.size = w1.heap.size + 1 ∧ W.heap.size ≤ w1.heap.size := by
  obtain ⟨h1, h2, h3, h4, h5, _⟩ := appPut (i := i) hcs hT hbW hb0 ho1 hb1
  have hal : Below (w1.setCell ⟨b0, i, none⟩ v1).heap.size (w1.setCell ⟨b0, i, none⟩ v1) Y := by rw [hY]; exact (Below.refl _ _).alloc (Nat.le_refl _) _
  have he := ownT_empty (w1.setCell ⟨b0, i, none⟩ v1) w1.heap.size (by rw [h4]; exact Nat.le_refl _)
  rw [← hY, h4] at he
  exact ⟨⟨h1.below hal (Nat.le_refl _), he⟩, h2.trans (hal.mono h2.size), (hal.block _ (Array.getElem?_eq_some_iff.1 h3).1).trans h3, by rw [hY]; simp [h4], h5⟩

/-- A struct that a call works at, and the one that it answers: in its first two blocks; rows of texts that it has made. -/
def Box (w : World) (T : TypeId) (cs zs : List Value) (os : List (Value × List ByteArray)) (X : World) : Prop :=
  X.heap[w.heap.size]? = some (.cells cs.toArray T (0, 0)) ∧ X.heap[w.heap.size + 1]? = some (.cells zs.toArray T (0, 0)) ∧ Below w.heap.size w X ∧ ∀ p ∈ os, OwnT X w.heap.size p.1 p.2
theorem Box.lt {w X : World} {T : TypeId} {cs zs : List Value} {os : List (Value × List ByteArray)} (h : Box w T cs zs os X) : w.heap.size + 1 < X.heap.size := (Array.getElem?_eq_some_iff.1 h.2.1).1
theorem Box.start (w : World) (T : TypeId) (cs zs : List Value) : Box w T cs zs [] ((w.alloc (.cells cs.toArray T)).alloc (.cells zs.toArray T)) :=
  ⟨heap_alloc2_old w _ _, heap_alloc2_new w _ _, ((Below.refl _ _).alloc (Nat.le_refl _) _).alloc (by simp) _, fun p hp => absurd hp (by simp)⟩
theorem Box.below {w X Y : World} {T : TypeId} {cs zs : List Value} {os : List (Value × List ByteArray)} (h : Box w T cs zs os X) (hb : Below X.heap.size X Y) : Box w T cs zs os Y :=
  ⟨(hb.block _ (by have := h.lt; omega)).trans h.1, (hb.block _ h.lt).trans h.2.1, h.2.2.1.trans (hb.mono h.2.2.1.size), fun p hp => (h.2.2.2 p hp).below hb (Nat.le_refl _)⟩
theorem Box.add {w X : World} {T : TypeId} {cs zs : List Value} {os : List (Value × List ByteArray)} (h : Box w T cs zs os X) {v : Value} {l : List ByteArray} (ho : OwnT X w.heap.size v l) : Box w T cs zs ((v, l) :: os) X :=
  ⟨h.1, h.2.1, h.2.2.1, fun p hp => by
    rcases List.mem_cons.1 hp with rfl | hp
    · exact ho
    · exact h.2.2.2 p hp⟩
theorem Box.grown {w X Y : World} {T : TypeId} {cs zs cs' : List Value} {os : List (Value × List ByteArray)} (h : Box w T cs zs os X) (hT : T ≠ 9) (hg : X.grownBy Y (some w.heap.size)) (hc : Y.heap[w.heap.size]? = some (.cells cs'.toArray T (0, 0))) : Box w T cs' zs os Y :=
  ⟨hc, (hg.block _ h.lt (by simp)).trans h.2.1, below_own h.2.2.1 hg (Nat.le_refl _), fun p hp => (h.2.2.2 p hp).past hg h.1 hT⟩
theorem Box.put {w X : World} {T : TypeId} {cs zs : List Value} {os : List (Value × List ByteArray)} (h : Box w T cs zs os X) (hT : T ≠ 9) (i : Nat) (v : Value) : Box w T (cs.set i v) zs os (X.setCell ⟨w.heap.size, i, none⟩ v) := by
  refine h.grown hT (grown_cell (rd_refl _ _) i v) ?_
  rw [setCell_eq_setRow X w.heap.size i cs.toArray T (0, 0) v h.1]
  have := setRow_heap X w.heap.size cs.toArray (cs.toArray.setIfInBounds i v) T (0, 0) h.1
  simpa using this
/-- A cell written; and an empty row of texts made. -/
def putW (w : World) (b i : Nat) (v : Value) : World := w.setCell ⟨b, i, none⟩ v
def nextW (w : World) (b i : Nat) (v : Value) : World := (w.setCell ⟨b, i, none⟩ v).alloc (.cells #[] 9)
set_option maxHeartbeats 4000000 in
set_option maxRecDepth 10000 in
theorem specSigCopy_any (k : Int) (ve vp : Value) (el pl : List ByteArray) (w : World) (h1 : Texts w w.heap.size ve el) (h2 : Texts w w.heap.size vp pl) (hl1 : el.length ≤ 1048576) (hl2 : pl.length ≤ 1048576) :
    Calls Tryz.prog 58 #[.agg #[.int .i64 k, ve, vp]] w fun e w' => ∃ ue up, e = .returned (.agg #[.int .i64 k, ue, up]) ∧ OwnT w' w.heap.size ue el ∧ OwnT w' w.heap.size up pl ∧ Below w.heap.size w w' := by
  obtain ⟨a, c, rfl, hc1, hcap1⟩ := id h1
  obtain ⟨b, d, rfl, hc2, hcap2⟩ := id h2
  clear hc1 hcap1 hc2 hcap2
  obtain ⟨W, hW⟩ : ∃ W, W = (w.alloc (.cells #[.int .i64 k, .slice a el.length c, .slice b pl.length d] 35)).alloc (.cells #[.int .i64 0, .slice none 0 0, .slice none 0 0] 35) := ⟨_, rfl⟩
  have hB : Box w 35 [.int .i64 k, .slice a el.length c, .slice b pl.length d] [.int .i64 0, .slice none 0 0, .slice none 0 0] [] W := by rw [hW]; exact Box.start w _ _ _
  have hzW : W.heap.size = w.heap.size + 1 + 1 := by rw [hW]; simp
  have HT : Hid (∀ X, Below w.heap.size w X → Texts X X.heap.size (.slice a el.length c) el) := fun X q => h1.on q
  have HT2 : Hid (∀ X, Below w.heap.size w X → Texts X X.heap.size (.slice b pl.length d) pl) := fun X q => h2.on q
  have HW : Hid (W = (w.alloc (.cells #[.int .i64 k, .slice a el.length c, .slice b pl.length d] 35)).alloc (.cells #[.int .i64 0, .slice none 0 0, .slice none 0 0] 35)) := hW
  have HZ : Hid (W.heap.size = w.heap.size + 1 + 1) := hzW
  have HB : Hid (Box w 35 [.int .i64 k, .slice a el.length c, .slice b pl.length d] [.int .i64 0, .slice none 0 0, .slice none 0 0] [] W) := hB
  clear h1 h2 hW hzW hB
  generalize hn1 : el.length = n1 at *
  generalize hn2 : pl.length = n2 at *
  have HNE : Hid (el.length = n1 ∧ pl.length = n2) := ⟨hn1, hn2⟩
  clear hn1 hn2
  go_enter Tryz.func58, Tryz.ntmps58
  go_wp2_with (first
    | (rw [← HW.out, ← HZ.out]; obtain ⟨V, hV⟩ : ∃ V, V = W.alloc (.cells #[] 9) := ⟨_, rfl⟩; rw [← hV]; have hal : Below W.heap.size W V := (by rw [hV]; exact (Below.refl _ _).alloc (Nat.le_refl _) _); have HV : Hid (Box w 35 [.int .i64 k, .slice a n1 c, .slice b n2 d] [.int .i64 0, .slice none 0 0, .slice none 0 0] [] V ∧ OwnT V W.heap.size (.slice (some ⟨W.heap.size, 0, none⟩) 0 0) [] ∧ Texts V V.heap.size (.slice a n1 c) el ∧ Below W.heap.size W V) := ⟨HB.out.below hal, (by rw [hV]; exact ownT_empty W _ (Nat.le_refl _)), HT.out V (HB.out.below hal).2.2.1, hal⟩; have x1 : V.cell? ⟨w.heap.size, 1, none⟩ = some (.slice a n1 c) := row_here HV.out.1.1 1 _ rfl; clear hal hV)
    | (refine wp_app_texts rfl (.tmp 3) (.tmp 5) rfl W.heap.size (.slice (some ⟨W.heap.size, 0, none⟩) 0 0) (.slice a n1 c) [] el rfl HV.out.2.1 rfl HV.out.2.2.1 (by simp) (by have := HNE.out.1; omega) HV.out.2.2.2.size ?_; intro v1 w1 ho1 hb1; rw [List.nil_append] at ho1; obtain ⟨u1, m1, rfl⟩ := ho1.len; rw [HNE.out.1] at ho1 ⊢; have hb01 := HV.out.2.2.2.trans hb1; have hB1 := (HB.out.below hb01).add (ho1.lower HB.out.2.2.1.size); have H1 : Hid (Box w 35 [.int .i64 k, .slice a n1 c, .slice b n2 d] [.int .i64 0, .slice none 0 0, .slice none 0 0] [(.slice u1 n1 m1, el)] w1) := hB1; have f1 := row_free H1.out.1 1; have g1 : w1.cell? ⟨w.heap.size, 1, none⟩ = some (.slice a n1 c) := row_here H1.out.1 1 _ rfl; clear ho1 hb1 hb01 hB1 x1)
    | (rw [show (w1.setCell ⟨w.heap.size, 1, none⟩ (.slice u1 n1 m1)).alloc (.cells #[] 9) = Go.Proofs.YtcenlgfopmahcaaGreatDoor.nextW w1 w.heap.size 1 (.slice u1 n1 m1) from rfl]; obtain ⟨Y, hY⟩ : ∃ Y, Y = nextW w1 w.heap.size 1 (.slice u1 n1 m1) := ⟨_, rfl⟩; rw [← hY]; have hP := H1.out.put (by decide) 1 (.slice u1 n1 m1); have hsz : (w1.setCell ⟨w.heap.size, 1, none⟩ (.slice u1 n1 m1)).heap.size = w1.heap.size := size_put _ _ _; have hal : Below (w1.setCell ⟨w.heap.size, 1, none⟩ (.slice u1 n1 m1)).heap.size (w1.setCell ⟨w.heap.size, 1, none⟩ (.slice u1 n1 m1)) Y := (by rw [hY]; exact (Below.refl _ _).alloc (Nat.le_refl _) _); have he := ownT_empty (w1.setCell ⟨w.heap.size, 1, none⟩ (.slice u1 n1 m1)) w1.heap.size (by rw [hsz]; exact Nat.le_refl _); have hBY := hP.below hal; rw [hsz] at he hal; have HP : Hid (Box w 35 [.int .i64 k, .slice u1 n1 m1, .slice b n2 d] [.int .i64 0, .slice none 0 0, .slice none 0 0] [(.slice u1 n1 m1, el)] Y ∧ OwnT Y w1.heap.size (.slice (some ⟨w1.heap.size, 0, none⟩) 0 0) [] ∧ Texts Y Y.heap.size (.slice b n2 d) pl ∧ w1.heap.size ≤ Y.heap.size ∧ ∀ Z, Below w1.heap.size Y Z → Box w 35 [.int .i64 k, .slice u1 n1 m1, .slice b n2 d] [.int .i64 0, .slice none 0 0, .slice none 0 0] [(.slice u1 n1 m1, el)] Z) := ⟨hBY, (by rw [hY]; exact he), HT2.out Y hBY.2.2.1, (by have := hal.size; omega), fun Z q => hP.below (by rw [hsz]; exact hal.trans q)⟩; have y2 : Y.cell? ⟨w.heap.size, 2, none⟩ = some (.slice b n2 d) := row_here HP.out.1.1 2 _ rfl; clear hP hsz hal he hBY hY g1 f1)
    | (refine wp_app_texts rfl (.tmp 8) (.tmp 10) rfl w1.heap.size (.slice (some ⟨w1.heap.size, 0, none⟩) 0 0) (.slice b n2 d) [] pl rfl HP.out.2.1 rfl HP.out.2.2.1 (by simp) (by have := HNE.out.2; omega) HP.out.2.2.2.1 ?_; intro v2 w2 ho2 hb2; rw [List.nil_append] at ho2; obtain ⟨u2, m2, rfl⟩ := ho2.len; rw [HNE.out.2] at ho2 ⊢; have hB2 := (HP.out.2.2.2.2 w2 hb2).add (ho2.lower (by have := H1.out.2.2.1.size; omega)); have H2 : Hid (Box w 35 [.int .i64 k, .slice u1 n1 m1, .slice b n2 d] [.int .i64 0, .slice none 0 0, .slice none 0 0] [(.slice u2 n2 m2, pl), (.slice u1 n1 m1, el)] w2) := hB2; have f2 := row_free H2.out.1 2; have g2 : w2.cell? ⟨w.heap.size, 2, none⟩ = some (.slice b n2 d) := row_here H2.out.1 2 _ rfl; clear ho2 hb2 hB2 y2)
    | (rw [show w2.setCell ⟨w.heap.size, 2, none⟩ (.slice u2 n2 m2) = Go.Proofs.YtcenlgfopmahcaaGreatDoor.putW w2 w.heap.size 2 (.slice u2 n2 m2) from rfl]; obtain ⟨Z, hZ⟩ : ∃ Z, Z = putW w2 w.heap.size 2 (.slice u2 n2 m2) := ⟨_, rfl⟩; rw [← hZ]; have hP := H2.out.put (by decide) 2 (.slice u2 n2 m2); have H3 : Hid (Box w 35 [.int .i64 k, .slice u1 n1 m1, .slice u2 n2 m2] [.int .i64 0, .slice none 0 0, .slice none 0 0] [(.slice u2 n2 m2, pl), (.slice u1 n1 m1, el)] Z) := (by rw [hZ]; exact hP); have r0 := H3.out.1; have r1 := H3.out.2.1; clear hP hZ g2 f2)
    | (refine wpList_load_row rfl 35 (.tmp 1) rfl w.heap.size rfl _ _ _ _ r0 Tryz.underlying35 rfl (by kernel_rfl) ?_)
    | (refine wpList_store_row rfl 35 (.tmp 2) (.tmp 13) rfl (w.heap.size + 1) #[.int .i64 k, .slice u1 n1 m1, .slice u2 n2 m2] rfl rfl _ _ r1 (by kernel_rfl) rfl (by simp [Value.oneCell']) ?_))
  have ho := H3.out.2.2.2
  refine bodyPost_ret (v := _) (results_cell_row rfl _ _ (w.heap.size + 1) _ _ _ _ rfl (setRow_heap _ _ _ _ _ _ r1) Tryz.underlying35 rfl (by kernel_rfl)) rfl ⟨_, _, rfl, ?_, ?_, below_setRow H3.out.2.2.1 (by omega) _⟩
  · exact (ho _ (List.mem_cons_of_mem _ (List.mem_cons_self ..))).past (setRow_grown Z (w.heap.size + 1) _) r1 (by decide)
  · exact (ho _ (List.mem_cons_self ..)).past (setRow_grown Z (w.heap.size + 1) _) r1 (by decide)
end Go.Proofs.YtcenlgfopmahcaaGreatDoor

/-
  A watch that came in: its size.
-/
namespace Go.Proofs.YtcenlgfopmahcaaGreatDoor
open Go.RowKit Go.Lib
set_option linter.unusedVariables false
set_option linter.unusedSimpArgs false

theorem Wt.Arg.on {t : Wt} {l : List Hv} {v0 v1 v2 vp v3 v4 v5 v6 v7 : Value} {w w' : World} (h : t.Arg l v0 v1 v2 vp v3 v4 v5 v6 v7 w) (hb : Below w.heap.size w w') : t.Arg l v0 v1 v2 vp v3 v4 v5 v6 v7 w' :=
  ⟨h.1, h.2.1, h.2.2.1.on hb, h.2.2.2.1.on hb, ⟨h.2.2.2.2.1.1.on hb, h.2.2.2.2.1.2.1, fun j hj => (h.2.2.2.2.1.2.2 j hj).on hb⟩, h.2.2.2.2.2.1.on hb, h.2.2.2.2.2.2.1.on hb, h.2.2.2.2.2.2.2.on hb⟩
set_option maxHeartbeats 4000000 in
set_option maxRecDepth 10000 in
theorem szW_any (t : Wt) (l : List Hv) (v0 v1 v2 vp v3 v4 v5 v6 v7 : Value) (left : Int) (w : World) (h : t.Arg l v0 v1 v2 vp v3 v4 v5 v6 v7 w) (h0 : 0 ≤ left) (hle : left ≤ 1048576) :
    Calls Tryz.prog 4 #[.agg #[.string t.log, .string t.key, v0, .string t.h.log, .int .i64 t.h.size, .string t.h.root, .int .i64 t.h.time, .int .i64 t.h.k, v1, v2, vp, .bool t.found, .string t.a.log, .int .i64 t.a.size, .string t.a.root, .int .i64 t.a.time, .int .i64 t.a.k, v3, v4, .string t.b.log, .int .i64 t.b.size, .string t.b.root, .int .i64 t.b.time, .int .i64 t.b.k, v5, v6, v7], .int .i64 left] w fun e w' => ∃ r : Int, e = .returned (.int .i64 r) ∧ -1048577 ≤ r ∧ r ≤ 1048576 ∧ (r < 0 ∨ (t.Lens ∧ HdsLim l)) ∧ Below w.heap.size w w' := by
  obtain ⟨a0, c0, rfl, z0⟩ := id h.2.2.1.1
  obtain ⟨a1, c1, a2, c2, rfl, rfl⟩ := h.2.2.2.1.1.parts
  obtain ⟨⟨ap, cp, rfl, zp⟩, zq⟩ := id h.2.2.2.2.1.1
  obtain ⟨a3, c3, a4, c4, rfl, rfl⟩ := h.2.2.2.2.2.1.1.parts
  obtain ⟨a5, c5, a6, c6, rfl, rfl⟩ := h.2.2.2.2.2.2.1.1.parts
  obtain ⟨a7, c7, rfl, z7⟩ := id h.2.2.2.2.2.2.2.1
  clear z0 zp zq z7
  obtain ⟨W, hW⟩ : ∃ W, W = w.alloc (.cells #[.string t.log, .string t.key, .slice a0 t.en.length c0, .string t.h.log, .int .i64 t.h.size, .string t.h.root, .int .i64 t.h.time, .int .i64 t.h.k, .slice a1 t.h.el.length c1, .slice a2 t.h.pl.length c2, .slice ap l.length cp, .bool t.found, .string t.a.log, .int .i64 t.a.size, .string t.a.root, .int .i64 t.a.time, .int .i64 t.a.k, .slice a3 t.a.el.length c3, .slice a4 t.a.pl.length c4, .string t.b.log, .int .i64 t.b.size, .string t.b.root, .int .i64 t.b.time, .int .i64 t.b.k, .slice a5 t.b.el.length c5, .slice a6 t.b.pl.length c6, .slice a7 t.fl.length c7] 31) := ⟨_, rfl⟩
  have hbW : Below w.heap.size w W := by rw [hW]; exact (Below.refl _ _).alloc (Nat.le_refl _) _
  have hgW : W.heap[w.heap.size]? = some (.cells #[.string t.log, .string t.key, .slice a0 t.en.length c0, .string t.h.log, .int .i64 t.h.size, .string t.h.root, .int .i64 t.h.time, .int .i64 t.h.k, .slice a1 t.h.el.length c1, .slice a2 t.h.pl.length c2, .slice ap l.length cp, .bool t.found, .string t.a.log, .int .i64 t.a.size, .string t.a.root, .int .i64 t.a.time, .int .i64 t.a.k, .slice a3 t.a.el.length c3, .slice a4 t.a.pl.length c4, .string t.b.log, .int .i64 t.b.size, .string t.b.root, .int .i64 t.b.time, .int .i64 t.b.k, .slice a5 t.b.el.length c5, .slice a6 t.b.pl.length c6, .slice a7 t.fl.length c7] 31 (0, 0)) := by rw [hW]; exact heap_alloc_new w _
  have HW : Hid (W = w.alloc (.cells #[.string t.log, .string t.key, .slice a0 t.en.length c0, .string t.h.log, .int .i64 t.h.size, .string t.h.root, .int .i64 t.h.time, .int .i64 t.h.k, .slice a1 t.h.el.length c1, .slice a2 t.h.pl.length c2, .slice ap l.length cp, .bool t.found, .string t.a.log, .int .i64 t.a.size, .string t.a.root, .int .i64 t.a.time, .int .i64 t.a.k, .slice a3 t.a.el.length c3, .slice a4 t.a.pl.length c4, .string t.b.log, .int .i64 t.b.size, .string t.b.root, .int .i64 t.b.time, .int .i64 t.b.k, .slice a5 t.b.el.length c5, .slice a6 t.b.pl.length c6, .slice a7 t.fl.length c7] 31)) := hW
  have HR : Hid (∀ X, Below W.heap.size W X → X.heap[w.heap.size]? = some (.cells #[.string t.log, .string t.key, .slice a0 t.en.length c0, .string t.h.log, .int .i64 t.h.size, .string t.h.root, .int .i64 t.h.time, .int .i64 t.h.k, .slice a1 t.h.el.length c1, .slice a2 t.h.pl.length c2, .slice ap l.length cp, .bool t.found, .string t.a.log, .int .i64 t.a.size, .string t.a.root, .int .i64 t.a.time, .int .i64 t.a.k, .slice a3 t.a.el.length c3, .slice a4 t.a.pl.length c4, .string t.b.log, .int .i64 t.b.size, .string t.b.root, .int .i64 t.b.time, .int .i64 t.b.k, .slice a5 t.b.el.length c5, .slice a6 t.b.pl.length c6, .slice a7 t.fl.length c7] 31 (0, 0))) := fun X hb => (hb.block _ (Array.getElem?_eq_some_iff.1 hgW).1).trans hgW
  have h' := h.on hbW
  have G1 : Hid (∀ r : Int, 0 ≤ r → r ≤ 1048576 → Calls Tryz.prog 13 #[.slice a0 t.en.length c0, .int .i64 r] W fun e w' => SzAns t.en e ∧ w' = W) := fun r a b => sz_any _ t.en r W W.heap.size h'.2.2.1.1 h'.2.2.1.2.1 h'.2.2.1.2.2 a b
  have G2 : Hid (∀ r : Int, 0 ≤ r → r ≤ 1048576 → Calls Tryz.prog 14 #[.agg #[.string t.h.log, .int .i64 t.h.size, .string t.h.root, .int .i64 t.h.time, .int .i64 t.h.k, .slice a1 t.h.el.length c1, .slice a2 t.h.pl.length c2], .int .i64 r] W fun e w' => ∃ r : Int, e = .returned (.int .i64 r) ∧ -1048577 ≤ r ∧ r ≤ 1048576 ∧ (r < 0 ∨ t.h.Lim) ∧ Below W.heap.size W w') := fun r a b => szHd_any t.h _ _ r W h'.2.2.2.1 a b
  have G3 : Hid (∀ X, Below W.heap.size W X → ∀ r : Int, 0 ≤ r → r ≤ 1048576 → Calls Tryz.prog 15 #[.slice ap l.length cp, .int .i64 r] X fun e w' => ∃ r : Int, e = .returned (.int .i64 r) ∧ -1048577 ≤ r ∧ r ≤ 1048576 ∧ (r < 0 ∨ HdsLim l) ∧ Below X.heap.size X w') := fun X hb r a b => szHeads_any _ l r X (h'.on hb).2.2.2.2.1 a b
  have G4 : Hid (∀ X, Below W.heap.size W X → ∀ r : Int, 0 ≤ r → r ≤ 1048576 → Calls Tryz.prog 16 #[.agg #[.string t.a.log, .int .i64 t.a.size, .string t.a.root, .int .i64 t.a.time, .int .i64 t.a.k, .slice a3 t.a.el.length c3, .slice a4 t.a.pl.length c4, .string t.b.log, .int .i64 t.b.size, .string t.b.root, .int .i64 t.b.time, .int .i64 t.b.k, .slice a5 t.b.el.length c5, .slice a6 t.b.pl.length c6, .slice a7 t.fl.length c7], .int .i64 r] X fun e w' => ∃ r : Int, e = .returned (.int .i64 r) ∧ -1048577 ≤ r ∧ r ≤ 1048576 ∧ (r < 0 ∨ (t.a.Lim ∧ t.b.Lim ∧ t.fl.length ≤ 1048576)) ∧ Below X.heap.size X w') := fun X hb r a b => szFraud_any t.a t.b _ _ _ _ _ t.fl r X (h'.on hb).2.2.2.2.2.1 (h'.on hb).2.2.2.2.2.2.1 (h'.on hb).2.2.2.2.2.2.2 a b
  have H0 : Hid (Below w.heap.size w W) := hbW
  have B0 : Hid (Below W.heap.size W W) := Below.refl _ _
  have hlg := h.1
  have hky := h.2.1
  have r1 := HR.out _ B0.out
  have x0 : W.cell? ⟨w.heap.size, 0, none⟩ = some (.string t.log) := row_here r1 0 _ rfl
  have x1 : W.cell? ⟨w.heap.size, 1, none⟩ = some (.string t.key) := row_here r1 1 _ rfl
  have x2 : W.cell? ⟨w.heap.size, 2, none⟩ = some (.slice a0 t.en.length c0) := row_here r1 2 _ rfl
  clear r1 h h' hW hbW hgW
  by_cases hn1 : left - (t.log.size : Int) < 0
  · go_enter Tryz.func4, Tryz.ntmps4
    go_wp2
    rw [← HW.out]
    go_ret
    exact ⟨-1, rfl, by omega, by omega, .inl (by omega), H0.out⟩
  by_cases hn2 : left - (t.log.size : Int) - (t.key.size : Int) < 0
  · go_enter Tryz.func4, Tryz.ntmps4
    go_wp2
    rw [← HW.out]
    go_ret
    exact ⟨-1, rfl, by omega, by omega, .inl (by omega), H0.out⟩
  go_enter Tryz.func4, Tryz.ntmps4
  go_wp2_with fail
  rw [← HW.out]
  clear HW
  refine (G1.out _ (by omega) (by omega)).mono ?_
  rintro e w1 ⟨⟨r1, rfl, p0, p1, q1⟩, rfl⟩
  have Q1 : Hid (r1 < 0 ∨ t.en.length ≤ 1048576) := q1.imp id And.left
  clear q1 G1
  by_cases n1 : r1 < 0
  · go_wp2
    go_ret
    exact ⟨-1, rfl, by omega, by omega, .inl (by omega), H0.out⟩
  clear x0 x1 x2
  have e1 := HR.out _ B0.out
  have x3 : w1.cell? ⟨w.heap.size, 3, none⟩ = some (.string t.h.log) := row_here e1 3 _ rfl
  have x4 : w1.cell? ⟨w.heap.size, 4, none⟩ = some (.int .i64 t.h.size) := row_here e1 4 _ rfl
  have x5 : w1.cell? ⟨w.heap.size, 5, none⟩ = some (.string t.h.root) := row_here e1 5 _ rfl
  have x6 : w1.cell? ⟨w.heap.size, 6, none⟩ = some (.int .i64 t.h.time) := row_here e1 6 _ rfl
  have x7 : w1.cell? ⟨w.heap.size, 7, none⟩ = some (.int .i64 t.h.k) := row_here e1 7 _ rfl
  have x8 : w1.cell? ⟨w.heap.size, 8, none⟩ = some (.slice a1 t.h.el.length c1) := row_here e1 8 _ rfl
  have x9 : w1.cell? ⟨w.heap.size, 9, none⟩ = some (.slice a2 t.h.pl.length c2) := row_here e1 9 _ rfl
  clear e1
  go_wp2_with fail
  refine (G2.out _ (by omega) (by omega)).mono ?_
  rintro e w2 ⟨r2, rfl, p2, p3, q2, hb2⟩
  have Q2 : Hid (r2 < 0 ∨ t.h.Lim) := q2
  have B2 : Hid (Below w1.heap.size w1 w2) := hb2
  clear x3 x4 x5 x6 x7 x8 x9
  have e2 := HR.out _ B2.out
  have x10 : w2.cell? ⟨w.heap.size, 10, none⟩ = some (.slice ap l.length cp) := row_here e2 10 _ rfl
  clear q2 hb2 G2 e2
  by_cases n2 : r2 < 0
  · go_wp2
    go_ret
    exact ⟨-1, rfl, by omega, by omega, .inl (by omega), H0.out.trans (B2.out.mono H0.out.size)⟩
  go_wp2_with fail
  refine (G3.out _ B2.out _ (by omega) (by omega)).mono ?_
  rintro e w3 ⟨r3, rfl, p4, p5, q3, hb3⟩
  have Q3 : Hid (r3 < 0 ∨ HdsLim l) := q3
  have B3 : Hid (Below w1.heap.size w1 w3) := B2.out.trans (hb3.mono B2.out.size)
  clear x10
  have e3 := HR.out _ B3.out
  have x12 : w3.cell? ⟨w.heap.size, 12, none⟩ = some (.string t.a.log) := row_here e3 12 _ rfl
  have x13 : w3.cell? ⟨w.heap.size, 13, none⟩ = some (.int .i64 t.a.size) := row_here e3 13 _ rfl
  have x14 : w3.cell? ⟨w.heap.size, 14, none⟩ = some (.string t.a.root) := row_here e3 14 _ rfl
  have x15 : w3.cell? ⟨w.heap.size, 15, none⟩ = some (.int .i64 t.a.time) := row_here e3 15 _ rfl
  have x16 : w3.cell? ⟨w.heap.size, 16, none⟩ = some (.int .i64 t.a.k) := row_here e3 16 _ rfl
  have x17 : w3.cell? ⟨w.heap.size, 17, none⟩ = some (.slice a3 t.a.el.length c3) := row_here e3 17 _ rfl
  have x18 : w3.cell? ⟨w.heap.size, 18, none⟩ = some (.slice a4 t.a.pl.length c4) := row_here e3 18 _ rfl
  have x19 : w3.cell? ⟨w.heap.size, 19, none⟩ = some (.string t.b.log) := row_here e3 19 _ rfl
  have x20 : w3.cell? ⟨w.heap.size, 20, none⟩ = some (.int .i64 t.b.size) := row_here e3 20 _ rfl
  have x21 : w3.cell? ⟨w.heap.size, 21, none⟩ = some (.string t.b.root) := row_here e3 21 _ rfl
  have x22 : w3.cell? ⟨w.heap.size, 22, none⟩ = some (.int .i64 t.b.time) := row_here e3 22 _ rfl
  have x23 : w3.cell? ⟨w.heap.size, 23, none⟩ = some (.int .i64 t.b.k) := row_here e3 23 _ rfl
  have x24 : w3.cell? ⟨w.heap.size, 24, none⟩ = some (.slice a5 t.b.el.length c5) := row_here e3 24 _ rfl
  have x25 : w3.cell? ⟨w.heap.size, 25, none⟩ = some (.slice a6 t.b.pl.length c6) := row_here e3 25 _ rfl
  have x26 : w3.cell? ⟨w.heap.size, 26, none⟩ = some (.slice a7 t.fl.length c7) := row_here e3 26 _ rfl
  clear q3 hb3 G3 e3
  by_cases n3 : r3 < 0
  · go_wp2
    go_ret
    exact ⟨-1, rfl, by omega, by omega, .inl (by omega), H0.out.trans (B3.out.mono H0.out.size)⟩
  go_wp2_with fail
  refine (G4.out _ B3.out _ (by omega) (by omega)).mono ?_
  rintro e w4 ⟨r4, rfl, p6, p7, q4, hb4⟩
  have Q4 : Hid (r4 < 0 ∨ (t.a.Lim ∧ t.b.Lim ∧ t.fl.length ≤ 1048576)) := q4
  have B4 : Hid (Below w1.heap.size w1 w4) := B3.out.trans (hb4.mono B3.out.size)
  clear x12 x13 x14 x15 x16 x17 x18 x19 x20 x21 x22 x23 x24 x25 x26
  clear q4 hb4 G4
  by_cases n4 : r4 < 0
  · go_wp2
    go_ret
    exact ⟨-1, rfl, by omega, by omega, .inl (by omega), H0.out.trans (B4.out.mono H0.out.size)⟩
  · go_wp2
    go_ret
    obtain ⟨y1, y2, y3⟩ := Q4.out.resolve_left (by omega)
    exact ⟨r4, rfl, by omega, by omega, .inr ⟨⟨by omega, by omega, Q1.out.resolve_left (by omega), Q2.out.resolve_left (by omega), y1, y2, y3⟩, Q3.out.resolve_left (by omega)⟩, H0.out.trans (B4.out.mono H0.out.size)⟩
end Go.Proofs.YtcenlgfopmahcaaGreatDoor

/-
  A watch that came in: its copy.
-/
namespace Go.Proofs.YtcenlgfopmahcaaGreatDoor
open Go.RowKit Go.Lib
set_option linter.unusedVariables false
set_option linter.unusedSimpArgs false

theorem wat_old (w : World) (o : Obj) {r : Nat} (h : r < w.heap.size) : (w.alloc o).heap[r]? = w.heap[r]? := by
  show (w.heap.push o)[r]? = _
  rw [Array.getElem?_push_lt h, Array.getElem?_eq_getElem h]
theorem setCells_row2 {b : Nat} {t : TypeId} {vs : List Value} {o : Nat} {cs cs' : Array Value} {w : World} (h : w.heap[b]? = some (.cells cs t (0, 0))) (e : putL cs o vs = cs') : (w.setCells b o vs).heap[b]? = some (.cells cs' t (0, 0)) := by
  rw [← e]
  exact setCells_row vs o cs w h
theorem there_row {w : World} {b o n : Nat} {cs : Array Value} {t : TypeId} (h : w.heap[b]? = some (.cells cs t (0, 0))) (hn : o + n ≤ cs.size) : w.there b o n := fun j hj =>
  ⟨by rw [cell_of_row w b (o + j) cs t (0, 0) h, Array.getElem?_eq_getElem (by omega)]; rfl, row_free h _⟩
/-- What lies in three blocks behind w, the last of which is written to. -/
theorem three_kept {w X Y : World} {r1 r2 r3 : Array Value} {t1 t2 t3 : TypeId} (h : (X.heap[w.heap.size]? = some (.cells r1 t1 (0, 0)) ∧ X.heap[w.heap.size + 1]? = some (.cells r2 t2 (0, 0)) ∧ X.heap[w.heap.size + 1 + 1]? = some (.cells r3 t3 (0, 0))) ∧ Below w.heap.size w X ∧ w.heap.size + 3 ≤ X.heap.size) (hb : Below X.heap.size X Y) :
    (Y.heap[w.heap.size]? = some (.cells r1 t1 (0, 0)) ∧ Y.heap[w.heap.size + 1]? = some (.cells r2 t2 (0, 0)) ∧ Y.heap[w.heap.size + 1 + 1]? = some (.cells r3 t3 (0, 0))) ∧ Below w.heap.size w Y ∧ w.heap.size + 3 ≤ Y.heap.size :=
  ⟨⟨(hb.block _ (by omega)).trans h.1.1, (hb.block _ (by omega)).trans h.1.2.1, (hb.block _ (by omega)).trans h.1.2.2⟩, h.2.1.trans (hb.mono h.2.1.size), Nat.le_trans h.2.2 hb.size⟩
theorem three_put {w X Y : World} {r1 r2 r3 r4 : Array Value} {t1 t2 t3 : TypeId} (h : (X.heap[w.heap.size]? = some (.cells r1 t1 (0, 0)) ∧ X.heap[w.heap.size + 1]? = some (.cells r2 t2 (0, 0)) ∧ X.heap[w.heap.size + 1 + 1]? = some (.cells r3 t3 (0, 0))) ∧ Below w.heap.size w X ∧ w.heap.size + 3 ≤ X.heap.size) (hg : X.grownBy Y (some (w.heap.size + 1 + 1))) (hr : Y.heap[w.heap.size + 1 + 1]? = some (.cells r4 t3 (0, 0))) :
    (Y.heap[w.heap.size]? = some (.cells r1 t1 (0, 0)) ∧ Y.heap[w.heap.size + 1]? = some (.cells r2 t2 (0, 0)) ∧ Y.heap[w.heap.size + 1 + 1]? = some (.cells r4 t3 (0, 0))) ∧ Below w.heap.size w Y ∧ w.heap.size + 3 ≤ Y.heap.size :=
  ⟨⟨(hg.block _ (by omega) (by simp; omega)).trans h.1.1, (hg.block _ (by omega) (by simp)).trans h.1.2.1, hr⟩, below_own h.2.1 hg (by omega), Nat.le_trans h.2.2 hg.size⟩

/-- A watch that has come in: in rows of the call's own, one behind the other. -/
def WIn (t : Wt) (l : List Hv) (w : World) (e : Ending) (w' : World) : Prop :=
  ∃ (u0 u1 u2 up u3 u4 u5 u6 u7 : Value) (l' : List Hv) (n0 n1 n2 n3 n4 n5 n6 n7 n8 : Nat), e = .returned (.agg #[.string t.log, .string t.key, u0, .string t.h.log, .int .i64 t.h.size, .string t.h.root, .int .i64 t.h.time, .int .i64 t.h.k, u1, u2, up, .bool t.found, .string t.a.log, .int .i64 t.a.size, .string t.a.root, .int .i64 t.a.time, .int .i64 t.a.k, u3, u4, .string t.b.log, .int .i64 t.b.size, .string t.b.root, .int .i64 t.b.time, .int .i64 t.b.k, u5, u6, u7]) ∧ (OwnT w' n0 u0 t.en ∧ OwnT w' n1 u1 t.h.el ∧ OwnT w' n2 u2 t.h.pl ∧ HOwn2 w' n3 up l' ∧ Owns5 w' n4 n5 n6 n7 n8 u3 u4 u5 u6 u7 t.a.el t.a.pl t.b.el t.b.pl t.fl) ∧
    ((∀ g, u0.ownBlock = some g → g < n1) ∧ (∀ g, u1.ownBlock = some g → g < n2) ∧ (∀ g, u2.ownBlock = some g → g < n3) ∧ (∀ g, up.ownBlock = some g → g < n4) ∧ ∀ b ∈ blks l', b < n4) ∧ (w.heap.size ≤ n0 ∧ n0 ≤ n1 ∧ n1 ≤ n2 ∧ n2 ≤ n3 ∧ n3 ≤ n4) ∧ l'.map Hv.x = l.map Hv.x ∧ Below w.heap.size w w'

set_option maxHeartbeats 4000000 in
set_option maxRecDepth 10000 in
theorem toW_in (t : Wt) (l : List Hv) (v0 v1 v2 vp v3 v4 v5 v6 v7 : Value) (w : World) (hi : t.In v0 v1 v2 v3 v4 v5 v6 v7 w w.heap.size) (hh : Heads w w.heap.size vp l) (hf : t.Lens) (hl : HdsLim l) :
    Calls Tryz.prog 6 #[.agg #[.string t.log, .string t.key, v0, .string t.h.log, .int .i64 t.h.size, .string t.h.root, .int .i64 t.h.time, .int .i64 t.h.k, v1, v2, vp, .bool t.found, .string t.a.log, .int .i64 t.a.size, .string t.a.root, .int .i64 t.a.time, .int .i64 t.a.k, v3, v4, .string t.b.log, .int .i64 t.b.size, .string t.b.root, .int .i64 t.b.time, .int .i64 t.b.k, v5, v6, v7]] w (WIn t l w) := by
  obtain ⟨a0, c0, rfl, z0⟩ := id hi.1
  obtain ⟨a1, c1, a2, c2, rfl, rfl⟩ := hi.2.1.parts
  obtain ⟨⟨ap, cp, rfl, zp⟩, zq⟩ := id hh
  obtain ⟨a3, c3, a4, c4, rfl, rfl⟩ := hi.2.2.1.parts
  obtain ⟨a5, c5, a6, c6, rfl, rfl⟩ := hi.2.2.2.1.parts
  obtain ⟨a7, c7, rfl, z7⟩ := id hi.2.2.2.2
  clear z0 zp zq z7
  have zl : l.length ≤ 1048576 := hl.1
  obtain ⟨W, hW⟩ : ∃ W, W = ((w.alloc (.cells #[.string t.log, .string t.key, .slice a0 t.en.length c0, .string t.h.log, .int .i64 t.h.size, .string t.h.root, .int .i64 t.h.time, .int .i64 t.h.k, .slice a1 t.h.el.length c1, .slice a2 t.h.pl.length c2, .slice ap l.length cp, .bool t.found, .string t.a.log, .int .i64 t.a.size, .string t.a.root, .int .i64 t.a.time, .int .i64 t.a.k, .slice a3 t.a.el.length c3, .slice a4 t.a.pl.length c4, .string t.b.log, .int .i64 t.b.size, .string t.b.root, .int .i64 t.b.time, .int .i64 t.b.k, .slice a5 t.b.el.length c5, .slice a6 t.b.pl.length c6, .slice a7 t.fl.length c7] 31)).alloc (.cells #[.string ⟨#[]⟩, .string ⟨#[]⟩, .slice none 0 0, .string ⟨#[]⟩, .int .i64 0, .string ⟨#[]⟩, .int .i64 0, .int .i64 0, .slice none 0 0, .slice none 0 0, .slice none 0 0, .bool false, .string ⟨#[]⟩, .int .i64 0, .string ⟨#[]⟩, .int .i64 0, .int .i64 0, .slice none 0 0, .slice none 0 0, .string ⟨#[]⟩, .int .i64 0, .string ⟨#[]⟩, .int .i64 0, .int .i64 0, .slice none 0 0, .slice none 0 0, .slice none 0 0] 41)).alloc (.cells #[.string t.log, .string t.key, .slice none 0 0, .string ⟨#[]⟩, .int .i64 0, .string ⟨#[]⟩, .int .i64 0, .int .i64 0, .slice none 0 0, .slice none 0 0, .slice none 0 0, .bool false, .string ⟨#[]⟩, .int .i64 0, .string ⟨#[]⟩, .int .i64 0, .int .i64 0, .slice none 0 0, .slice none 0 0, .string ⟨#[]⟩, .int .i64 0, .string ⟨#[]⟩, .int .i64 0, .int .i64 0, .slice none 0 0, .slice none 0 0, .slice none 0 0] 41) := ⟨_, rfl⟩
  have hbW : Below w.heap.size w W := by rw [hW]; exact (((Below.refl _ _).alloc (Nat.le_refl _) _).alloc (by simp) _).alloc (by simp; omega) _
  have hzW : W.heap.size = w.heap.size + 3 := by rw [hW]; simp
  have H0 : Hid ((W.heap[w.heap.size]? = some (.cells #[.string t.log, .string t.key, .slice a0 t.en.length c0, .string t.h.log, .int .i64 t.h.size, .string t.h.root, .int .i64 t.h.time, .int .i64 t.h.k, .slice a1 t.h.el.length c1, .slice a2 t.h.pl.length c2, .slice ap l.length cp, .bool t.found, .string t.a.log, .int .i64 t.a.size, .string t.a.root, .int .i64 t.a.time, .int .i64 t.a.k, .slice a3 t.a.el.length c3, .slice a4 t.a.pl.length c4, .string t.b.log, .int .i64 t.b.size, .string t.b.root, .int .i64 t.b.time, .int .i64 t.b.k, .slice a5 t.b.el.length c5, .slice a6 t.b.pl.length c6, .slice a7 t.fl.length c7] 31 (0, 0)) ∧ W.heap[w.heap.size + 1]? = some (.cells #[.string ⟨#[]⟩, .string ⟨#[]⟩, .slice none 0 0, .string ⟨#[]⟩, .int .i64 0, .string ⟨#[]⟩, .int .i64 0, .int .i64 0, .slice none 0 0, .slice none 0 0, .slice none 0 0, .bool false, .string ⟨#[]⟩, .int .i64 0, .string ⟨#[]⟩, .int .i64 0, .int .i64 0, .slice none 0 0, .slice none 0 0, .string ⟨#[]⟩, .int .i64 0, .string ⟨#[]⟩, .int .i64 0, .int .i64 0, .slice none 0 0, .slice none 0 0, .slice none 0 0] 41 (0, 0)) ∧ W.heap[w.heap.size + 1 + 1]? = some (.cells #[.string t.log, .string t.key, .slice none 0 0, .string ⟨#[]⟩, .int .i64 0, .string ⟨#[]⟩, .int .i64 0, .int .i64 0, .slice none 0 0, .slice none 0 0, .slice none 0 0, .bool false, .string ⟨#[]⟩, .int .i64 0, .string ⟨#[]⟩, .int .i64 0, .int .i64 0, .slice none 0 0, .slice none 0 0, .string ⟨#[]⟩, .int .i64 0, .string ⟨#[]⟩, .int .i64 0, .int .i64 0, .slice none 0 0, .slice none 0 0, .slice none 0 0] 41 (0, 0))) ∧ Below w.heap.size w W ∧ w.heap.size + 3 ≤ W.heap.size) := by
    refine ⟨⟨?_, ?_, ?_⟩, hbW, by omega⟩
    · rw [hW]; exact (wat_old _ _ (by simp; omega)).trans (heap_alloc2_old w _ _)
    · rw [hW]; exact (wat_old _ _ (by simp)).trans (heap_alloc2_new w _ _)
    · rw [hW]
      have := heap_alloc_new ((w.alloc (.cells #[.string t.log, .string t.key, .slice a0 t.en.length c0, .string t.h.log, .int .i64 t.h.size, .string t.h.root, .int .i64 t.h.time, .int .i64 t.h.k, .slice a1 t.h.el.length c1, .slice a2 t.h.pl.length c2, .slice ap l.length cp, .bool t.found, .string t.a.log, .int .i64 t.a.size, .string t.a.root, .int .i64 t.a.time, .int .i64 t.a.k, .slice a3 t.a.el.length c3, .slice a4 t.a.pl.length c4, .string t.b.log, .int .i64 t.b.size, .string t.b.root, .int .i64 t.b.time, .int .i64 t.b.k, .slice a5 t.b.el.length c5, .slice a6 t.b.pl.length c6, .slice a7 t.fl.length c7] 31)).alloc (.cells #[.string ⟨#[]⟩, .string ⟨#[]⟩, .slice none 0 0, .string ⟨#[]⟩, .int .i64 0, .string ⟨#[]⟩, .int .i64 0, .int .i64 0, .slice none 0 0, .slice none 0 0, .slice none 0 0, .bool false, .string ⟨#[]⟩, .int .i64 0, .string ⟨#[]⟩, .int .i64 0, .int .i64 0, .slice none 0 0, .slice none 0 0, .string ⟨#[]⟩, .int .i64 0, .string ⟨#[]⟩, .int .i64 0, .int .i64 0, .slice none 0 0, .slice none 0 0, .slice none 0 0] 41)) (.cells #[.string t.log, .string t.key, .slice none 0 0, .string ⟨#[]⟩, .int .i64 0, .string ⟨#[]⟩, .int .i64 0, .int .i64 0, .slice none 0 0, .slice none 0 0, .slice none 0 0, .bool false, .string ⟨#[]⟩, .int .i64 0, .string ⟨#[]⟩, .int .i64 0, .int .i64 0, .slice none 0 0, .slice none 0 0, .string ⟨#[]⟩, .int .i64 0, .string ⟨#[]⟩, .int .i64 0, .int .i64 0, .slice none 0 0, .slice none 0 0, .slice none 0 0] 41)
      simpa using this
  have G1 : Hid (∀ X, Below w.heap.size w X → Calls Tryz.prog 20 #[.slice a0 t.en.length c0] X fun e w' => ∃ v', e = .returned v' ∧ OwnS w' X.heap.size v' t.en ∧ Below X.heap.size X w') := fun X hb => toTexts_any _ t.en X (hi.1.on hb) hf.2.2.1
  have G2 : Hid (∀ X, Below w.heap.size w X → Calls Tryz.prog 21 #[.agg #[.string t.h.log, .int .i64 t.h.size, .string t.h.root, .int .i64 t.h.time, .int .i64 t.h.k, .slice a1 t.h.el.length c1, .slice a2 t.h.pl.length c2]] X fun e w' => HeadOwn X t.h.log t.h.size t.h.root t.h.time t.h.k t.h.el t.h.pl e w') := fun X hb => toHd_any t.h _ _ X (hi.2.1.on hb) hf.2.2.2.1
  have G3 : Hid (∀ X, Below w.heap.size w X → Calls Tryz.prog 22 #[.slice ap l.length cp] X fun e w' => ∃ (v' : Value) (l' : List Hv), e = .returned v' ∧ HOwn w' X.heap.size v' l' ∧ l'.map Hv.x = l.map Hv.x ∧ Below X.heap.size X w' ∧ HOwn2 w' X.heap.size v' l') := fun X hb => toHeads_own _ l X (hh.on hb) hl
  have G4 : Hid (∀ X, Below w.heap.size w X → Calls Tryz.prog 23 #[.agg #[.string t.a.log, .int .i64 t.a.size, .string t.a.root, .int .i64 t.a.time, .int .i64 t.a.k, .slice a3 t.a.el.length c3, .slice a4 t.a.pl.length c4, .string t.b.log, .int .i64 t.b.size, .string t.b.root, .int .i64 t.b.time, .int .i64 t.b.k, .slice a5 t.b.el.length c5, .slice a6 t.b.pl.length c6, .slice a7 t.fl.length c7]] X fun e w' => ∃ a5 c5 b5 d5 a6 c6 b6 d6 a7 c7 n0 n1 n2 n3 n4, e = .returned (.agg #[.string t.a.log, .int .i64 t.a.size, .string t.a.root, .int .i64 t.a.time, .int .i64 t.a.k, .slice a5 t.a.el.length c5, .slice b5 t.a.pl.length d5, .string t.b.log, .int .i64 t.b.size, .string t.b.root, .int .i64 t.b.time, .int .i64 t.b.k, .slice a6 t.b.el.length c6, .slice b6 t.b.pl.length d6, .slice a7 t.fl.length c7]) ∧ Owns5 w' n0 n1 n2 n3 n4 (.slice a5 t.a.el.length c5) (.slice b5 t.a.pl.length d5) (.slice a6 t.b.el.length c6) (.slice b6 t.b.pl.length d6) (.slice a7 t.fl.length c7) t.a.el t.a.pl t.b.el t.b.pl t.fl ∧ X.heap.size ≤ n0 ∧ Below X.heap.size X w') := fun X hb => (toFraud_own5 t.a t.b _ _ _ _ _ t.fl X (hi.2.2.1.on hb) (hi.2.2.2.1.on hb) (hi.2.2.2.2.on hb) hf.2.2.2.2.1 hf.2.2.2.2.2.1 hf.2.2.2.2.2.2).mono fun e w' h => h
  have HW : Hid (W = ((w.alloc (.cells #[.string t.log, .string t.key, .slice a0 t.en.length c0, .string t.h.log, .int .i64 t.h.size, .string t.h.root, .int .i64 t.h.time, .int .i64 t.h.k, .slice a1 t.h.el.length c1, .slice a2 t.h.pl.length c2, .slice ap l.length cp, .bool t.found, .string t.a.log, .int .i64 t.a.size, .string t.a.root, .int .i64 t.a.time, .int .i64 t.a.k, .slice a3 t.a.el.length c3, .slice a4 t.a.pl.length c4, .string t.b.log, .int .i64 t.b.size, .string t.b.root, .int .i64 t.b.time, .int .i64 t.b.k, .slice a5 t.b.el.length c5, .slice a6 t.b.pl.length c6, .slice a7 t.fl.length c7] 31)).alloc (.cells #[.string ⟨#[]⟩, .string ⟨#[]⟩, .slice none 0 0, .string ⟨#[]⟩, .int .i64 0, .string ⟨#[]⟩, .int .i64 0, .int .i64 0, .slice none 0 0, .slice none 0 0, .slice none 0 0, .bool false, .string ⟨#[]⟩, .int .i64 0, .string ⟨#[]⟩, .int .i64 0, .int .i64 0, .slice none 0 0, .slice none 0 0, .string ⟨#[]⟩, .int .i64 0, .string ⟨#[]⟩, .int .i64 0, .int .i64 0, .slice none 0 0, .slice none 0 0, .slice none 0 0] 41)).alloc (.cells #[.string t.log, .string t.key, .slice none 0 0, .string ⟨#[]⟩, .int .i64 0, .string ⟨#[]⟩, .int .i64 0, .int .i64 0, .slice none 0 0, .slice none 0 0, .slice none 0 0, .bool false, .string ⟨#[]⟩, .int .i64 0, .string ⟨#[]⟩, .int .i64 0, .int .i64 0, .slice none 0 0, .slice none 0 0, .string ⟨#[]⟩, .int .i64 0, .string ⟨#[]⟩, .int .i64 0, .int .i64 0, .slice none 0 0, .slice none 0 0, .slice none 0 0] 41)) := hW
  have HEN : Hid (t.en.length ≤ 1048576) := hf.2.2.1
  clear hi hh hf hl hW hbW hzW zl
  go_enter Tryz.func6, Tryz.ntmps6
  go_wp2_with fail
  rw [← HW.out]
  clear HW
  refine (G1.out _ H0.out.2.1).mono ?_
  rintro e w1 ⟨v', rfl, hos, hb⟩
  have ho := ((hos.own HEN.out).1).lower H0.out.2.2
  obtain ⟨b0, d0, rfl⟩ := ho.len
  have hk := three_kept H0.out hb
  have q3 : w1.cell? ⟨w.heap.size, 3, none⟩ = some (.string t.h.log) := row_here hk.1.1 3 _ rfl
  have q4 : w1.cell? ⟨w.heap.size, 4, none⟩ = some (.int .i64 t.h.size) := row_here hk.1.1 4 _ rfl
  have q5 : w1.cell? ⟨w.heap.size, 5, none⟩ = some (.string t.h.root) := row_here hk.1.1 5 _ rfl
  have q6 : w1.cell? ⟨w.heap.size, 6, none⟩ = some (.int .i64 t.h.time) := row_here hk.1.1 6 _ rfl
  have q7 : w1.cell? ⟨w.heap.size, 7, none⟩ = some (.int .i64 t.h.k) := row_here hk.1.1 7 _ rfl
  have q8 : w1.cell? ⟨w.heap.size, 8, none⟩ = some (.slice a1 t.h.el.length c1) := row_here hk.1.1 8 _ rfl
  have q9 : w1.cell? ⟨w.heap.size, 9, none⟩ = some (.slice a2 t.h.pl.length c2) := row_here hk.1.1 9 _ rfl
  have u2 := row_here hk.1.2.2 2 _ rfl
  have f2 := row_free hk.1.2.2 2
  obtain ⟨w2, hw2⟩ : ∃ w2, w2 = w1.setCell ⟨w.heap.size + 1 + 1, 2, none⟩ (.slice b0 t.en.length d0) := ⟨_, rfl⟩
  have hgr : w1.grownBy w2 (some (w.heap.size + 1 + 1)) := by rw [hw2]; exact grown_cell (rd_refl _ _) _ _
  have H2 : Hid (((w2.heap[w.heap.size]? = some (.cells #[.string t.log, .string t.key, .slice a0 t.en.length c0, .string t.h.log, .int .i64 t.h.size, .string t.h.root, .int .i64 t.h.time, .int .i64 t.h.k, .slice a1 t.h.el.length c1, .slice a2 t.h.pl.length c2, .slice ap l.length cp, .bool t.found, .string t.a.log, .int .i64 t.a.size, .string t.a.root, .int .i64 t.a.time, .int .i64 t.a.k, .slice a3 t.a.el.length c3, .slice a4 t.a.pl.length c4, .string t.b.log, .int .i64 t.b.size, .string t.b.root, .int .i64 t.b.time, .int .i64 t.b.k, .slice a5 t.b.el.length c5, .slice a6 t.b.pl.length c6, .slice a7 t.fl.length c7] 31 (0, 0)) ∧ w2.heap[w.heap.size + 1]? = some (.cells #[.string ⟨#[]⟩, .string ⟨#[]⟩, .slice none 0 0, .string ⟨#[]⟩, .int .i64 0, .string ⟨#[]⟩, .int .i64 0, .int .i64 0, .slice none 0 0, .slice none 0 0, .slice none 0 0, .bool false, .string ⟨#[]⟩, .int .i64 0, .string ⟨#[]⟩, .int .i64 0, .int .i64 0, .slice none 0 0, .slice none 0 0, .string ⟨#[]⟩, .int .i64 0, .string ⟨#[]⟩, .int .i64 0, .int .i64 0, .slice none 0 0, .slice none 0 0, .slice none 0 0] 41 (0, 0)) ∧ w2.heap[w.heap.size + 1 + 1]? = some (.cells #[.string t.log, .string t.key, .slice b0 t.en.length d0, .string ⟨#[]⟩, .int .i64 0, .string ⟨#[]⟩, .int .i64 0, .int .i64 0, .slice none 0 0, .slice none 0 0, .slice none 0 0, .bool false, .string ⟨#[]⟩, .int .i64 0, .string ⟨#[]⟩, .int .i64 0, .int .i64 0, .slice none 0 0, .slice none 0 0, .string ⟨#[]⟩, .int .i64 0, .string ⟨#[]⟩, .int .i64 0, .int .i64 0, .slice none 0 0, .slice none 0 0, .slice none 0 0] 41 (0, 0))) ∧ Below w.heap.size w w2 ∧ w.heap.size + 3 ≤ w2.heap.size) ∧ OwnT w2 (w.heap.size + 3) (.slice b0 t.en.length d0) t.en) := ⟨three_put hk hgr (by rw [hw2]; exact heap_put2 #[.string t.log, .string t.key, .slice b0 t.en.length d0, .string ⟨#[]⟩, .int .i64 0, .string ⟨#[]⟩, .int .i64 0, .int .i64 0, .slice none 0 0, .slice none 0 0, .slice none 0 0, .bool false, .string ⟨#[]⟩, .int .i64 0, .string ⟨#[]⟩, .int .i64 0, .int .i64 0, .slice none 0 0, .slice none 0 0, .string ⟨#[]⟩, .int .i64 0, .string ⟨#[]⟩, .int .i64 0, .int .i64 0, .slice none 0 0, .slice none 0 0, .slice none 0 0] hk.1.2.2 rfl), ho.wide hgr (by omega)⟩
  have HO1 : Hid (∀ g, (Value.slice b0 t.en.length d0).ownBlock = some g → g < w2.heap.size) := fun g hg => (World.ownsRow.lt H2.out.2 g hg).2
  have HW2 : Hid (w2 = w1.setCell ⟨w.heap.size + 1 + 1, 2, none⟩ (.slice b0 t.en.length d0)) := hw2
  clear hos ho hb hk hw2 hgr H0 G1
  go_wp2_with fail
  rw [← HW2.out]
  clear HW2 q3 q4 q5 q6 q7 q8 q9 u2 f2
  refine (G2.out _ H2.out.1.2.1).mono ?_
  rintro e w3 ⟨ue, uq, n, rfl, o1, o2, hq1, hn, hm, hb⟩
  obtain ⟨b1, d1, rfl⟩ := o1.len
  obtain ⟨b2, d2, rfl⟩ := o2.len
  have hk := three_kept H2.out.1 hb
  obtain ⟨w4, hw4⟩ : ∃ w4, w4 = w3.setCells (w.heap.size + 1 + 1) 3 [.string t.h.log, .int .i64 t.h.size, .string t.h.root, .int .i64 t.h.time, .int .i64 t.h.k, .slice b1 t.h.el.length d1, .slice b2 t.h.pl.length d2] := ⟨_, rfl⟩
  have hgr : w3.grownBy w4 (some (w.heap.size + 1 + 1)) := by rw [hw4]; exact setCells_grown _ _ _ _ _ (rd_refl _ _)
  have hsz := H2.out.1.2.2
  have H4 : Hid (((w4.heap[w.heap.size]? = some (.cells #[.string t.log, .string t.key, .slice a0 t.en.length c0, .string t.h.log, .int .i64 t.h.size, .string t.h.root, .int .i64 t.h.time, .int .i64 t.h.k, .slice a1 t.h.el.length c1, .slice a2 t.h.pl.length c2, .slice ap l.length cp, .bool t.found, .string t.a.log, .int .i64 t.a.size, .string t.a.root, .int .i64 t.a.time, .int .i64 t.a.k, .slice a3 t.a.el.length c3, .slice a4 t.a.pl.length c4, .string t.b.log, .int .i64 t.b.size, .string t.b.root, .int .i64 t.b.time, .int .i64 t.b.k, .slice a5 t.b.el.length c5, .slice a6 t.b.pl.length c6, .slice a7 t.fl.length c7] 31 (0, 0)) ∧ w4.heap[w.heap.size + 1]? = some (.cells #[.string ⟨#[]⟩, .string ⟨#[]⟩, .slice none 0 0, .string ⟨#[]⟩, .int .i64 0, .string ⟨#[]⟩, .int .i64 0, .int .i64 0, .slice none 0 0, .slice none 0 0, .slice none 0 0, .bool false, .string ⟨#[]⟩, .int .i64 0, .string ⟨#[]⟩, .int .i64 0, .int .i64 0, .slice none 0 0, .slice none 0 0, .string ⟨#[]⟩, .int .i64 0, .string ⟨#[]⟩, .int .i64 0, .int .i64 0, .slice none 0 0, .slice none 0 0, .slice none 0 0] 41 (0, 0)) ∧ w4.heap[w.heap.size + 1 + 1]? = some (.cells #[.string t.log, .string t.key, .slice b0 t.en.length d0, .string t.h.log, .int .i64 t.h.size, .string t.h.root, .int .i64 t.h.time, .int .i64 t.h.k, .slice b1 t.h.el.length d1, .slice b2 t.h.pl.length d2, .slice none 0 0, .bool false, .string ⟨#[]⟩, .int .i64 0, .string ⟨#[]⟩, .int .i64 0, .int .i64 0, .slice none 0 0, .slice none 0 0, .string ⟨#[]⟩, .int .i64 0, .string ⟨#[]⟩, .int .i64 0, .int .i64 0, .slice none 0 0, .slice none 0 0, .slice none 0 0] 41 (0, 0))) ∧ Below w.heap.size w w4 ∧ w.heap.size + 3 ≤ w4.heap.size) ∧ OwnT w4 (w.heap.size + 3) (.slice b0 t.en.length d0) t.en ∧ (OwnT w4 w2.heap.size (.slice b1 t.h.el.length d1) t.h.el ∧ OwnT w4 n (.slice b2 t.h.pl.length d2) t.h.pl)) := ⟨three_put hk hgr (by rw [hw4]; exact setCells_row2 hk.1.2.2 (by simp only [putL, List.setIfInBounds_toArray, List.set_cons_zero, List.set_cons_succ])), (H2.out.2.below hb (Nat.le_refl _)).wide hgr (by omega), (o1.wide hgr (by omega)), (o2.wide hgr (by omega))⟩
  have HO2 : Hid ((∀ g, (Value.slice b1 t.h.el.length d1).ownBlock = some g → g < n) ∧ w2.heap.size ≤ n ∧ n ≤ w4.heap.size ∧ (∀ g, (Value.slice b2 t.h.pl.length d2).ownBlock = some g → g < w4.heap.size) ∧ w.heap.size + 3 ≤ w2.heap.size) := ⟨hq1, hn, Nat.le_trans hm hgr.size, fun g hg => (World.ownsRow.lt H4.out.2.2.2 g hg).2, hsz⟩
  have th : w3.there (w.heap.size + 1 + 1) 3 7 := there_row hk.1.2.2 (by simp)
  have HW4 : Hid (w4 = w3.setCells (w.heap.size + 1 + 1) 3 [.string t.h.log, .int .i64 t.h.size, .string t.h.root, .int .i64 t.h.time, .int .i64 t.h.k, .slice b1 t.h.el.length d1, .slice b2 t.h.pl.length d2]) := hw4
  have r4 := H4.out.1.1.1
  have q10 : w4.cell? ⟨w.heap.size, 10, none⟩ = some (.slice ap l.length cp) := row_here r4 10 _ rfl
  clear o1 o2 hn hb hk hw4 hgr hsz H2 r4 G2 hq1 hm
  go_wp2_with (refine wpList_store_mid rfl 37 (.tmp 17) (.tmp 16) rfl (w.heap.size + 1 + 1) 3 #[.string t.h.log, .int .i64 t.h.size, .string t.h.root, .int .i64 t.h.time, .int .i64 t.h.k, .slice b1 t.h.el.length d1, .slice b2 t.h.pl.length d2] ?_ ?_ th (by kernel_rfl) (by simp [Value.oneCell']) ?_; rfl; rfl; rw [← HW4.out]; clear th)
  clear HW4 q10
  refine (G3.out _ H4.out.1.2.1).mono ?_
  rintro e w5 ⟨v', l', rfl, ho, hmap, hb, ho2⟩
  have hy2 := HO2.out.2.1
  have hy3 := HO2.out.2.2.2.2
  obtain ⟨bp, lp, dp, rfl⟩ : ∃ a n c, v' = .slice a n c := by
    obtain ⟨⟨g, cap, hv, _⟩, _⟩ := ho
    exact ⟨_, _, _, hv⟩
  have hk := three_kept H4.out.1 hb
  have q11 : w5.cell? ⟨w.heap.size, 11, none⟩ = some (.bool t.found) := row_here hk.1.1 11 _ rfl
  have q12 : w5.cell? ⟨w.heap.size, 12, none⟩ = some (.string t.a.log) := row_here hk.1.1 12 _ rfl
  have q13 : w5.cell? ⟨w.heap.size, 13, none⟩ = some (.int .i64 t.a.size) := row_here hk.1.1 13 _ rfl
  have q14 : w5.cell? ⟨w.heap.size, 14, none⟩ = some (.string t.a.root) := row_here hk.1.1 14 _ rfl
  have q15 : w5.cell? ⟨w.heap.size, 15, none⟩ = some (.int .i64 t.a.time) := row_here hk.1.1 15 _ rfl
  have q16 : w5.cell? ⟨w.heap.size, 16, none⟩ = some (.int .i64 t.a.k) := row_here hk.1.1 16 _ rfl
  have q17 : w5.cell? ⟨w.heap.size, 17, none⟩ = some (.slice a3 t.a.el.length c3) := row_here hk.1.1 17 _ rfl
  have q18 : w5.cell? ⟨w.heap.size, 18, none⟩ = some (.slice a4 t.a.pl.length c4) := row_here hk.1.1 18 _ rfl
  have q19 : w5.cell? ⟨w.heap.size, 19, none⟩ = some (.string t.b.log) := row_here hk.1.1 19 _ rfl
  have q20 : w5.cell? ⟨w.heap.size, 20, none⟩ = some (.int .i64 t.b.size) := row_here hk.1.1 20 _ rfl
  have q21 : w5.cell? ⟨w.heap.size, 21, none⟩ = some (.string t.b.root) := row_here hk.1.1 21 _ rfl
  have q22 : w5.cell? ⟨w.heap.size, 22, none⟩ = some (.int .i64 t.b.time) := row_here hk.1.1 22 _ rfl
  have q23 : w5.cell? ⟨w.heap.size, 23, none⟩ = some (.int .i64 t.b.k) := row_here hk.1.1 23 _ rfl
  have q24 : w5.cell? ⟨w.heap.size, 24, none⟩ = some (.slice a5 t.b.el.length c5) := row_here hk.1.1 24 _ rfl
  have q25 : w5.cell? ⟨w.heap.size, 25, none⟩ = some (.slice a6 t.b.pl.length c6) := row_here hk.1.1 25 _ rfl
  have q26 : w5.cell? ⟨w.heap.size, 26, none⟩ = some (.slice a7 t.fl.length c7) := row_here hk.1.1 26 _ rfl
  have u10 := row_here hk.1.2.2 10 _ rfl
  have u11 := row_here hk.1.2.2 11 _ rfl
  have f10 := row_free hk.1.2.2 10
  have f11 := row_free hk.1.2.2 11
  obtain ⟨w6, hw6⟩ : ∃ w6, w6 = (w5.setCell ⟨w.heap.size + 1 + 1, 10, none⟩ (.slice bp lp dp)).setCell ⟨w.heap.size + 1 + 1, 11, none⟩ (.bool t.found) := ⟨_, rfl⟩
  have hgr : w5.grownBy w6 (some (w.heap.size + 1 + 1)) := by rw [hw6]; exact grown_cell (grown_cell (rd_refl _ _) _ _) _ _
  have hsz := H4.out.1.2.2
  have H6 : Hid (((w6.heap[w.heap.size]? = some (.cells #[.string t.log, .string t.key, .slice a0 t.en.length c0, .string t.h.log, .int .i64 t.h.size, .string t.h.root, .int .i64 t.h.time, .int .i64 t.h.k, .slice a1 t.h.el.length c1, .slice a2 t.h.pl.length c2, .slice ap l.length cp, .bool t.found, .string t.a.log, .int .i64 t.a.size, .string t.a.root, .int .i64 t.a.time, .int .i64 t.a.k, .slice a3 t.a.el.length c3, .slice a4 t.a.pl.length c4, .string t.b.log, .int .i64 t.b.size, .string t.b.root, .int .i64 t.b.time, .int .i64 t.b.k, .slice a5 t.b.el.length c5, .slice a6 t.b.pl.length c6, .slice a7 t.fl.length c7] 31 (0, 0)) ∧ w6.heap[w.heap.size + 1]? = some (.cells #[.string ⟨#[]⟩, .string ⟨#[]⟩, .slice none 0 0, .string ⟨#[]⟩, .int .i64 0, .string ⟨#[]⟩, .int .i64 0, .int .i64 0, .slice none 0 0, .slice none 0 0, .slice none 0 0, .bool false, .string ⟨#[]⟩, .int .i64 0, .string ⟨#[]⟩, .int .i64 0, .int .i64 0, .slice none 0 0, .slice none 0 0, .string ⟨#[]⟩, .int .i64 0, .string ⟨#[]⟩, .int .i64 0, .int .i64 0, .slice none 0 0, .slice none 0 0, .slice none 0 0] 41 (0, 0)) ∧ w6.heap[w.heap.size + 1 + 1]? = some (.cells #[.string t.log, .string t.key, .slice b0 t.en.length d0, .string t.h.log, .int .i64 t.h.size, .string t.h.root, .int .i64 t.h.time, .int .i64 t.h.k, .slice b1 t.h.el.length d1, .slice b2 t.h.pl.length d2, .slice bp lp dp, .bool t.found, .string ⟨#[]⟩, .int .i64 0, .string ⟨#[]⟩, .int .i64 0, .int .i64 0, .slice none 0 0, .slice none 0 0, .string ⟨#[]⟩, .int .i64 0, .string ⟨#[]⟩, .int .i64 0, .int .i64 0, .slice none 0 0, .slice none 0 0, .slice none 0 0] 41 (0, 0))) ∧ Below w.heap.size w w6 ∧ w.heap.size + 3 ≤ w6.heap.size) ∧ OwnT w6 (w.heap.size + 3) (.slice b0 t.en.length d0) t.en ∧ (OwnT w6 w2.heap.size (.slice b1 t.h.el.length d1) t.h.el ∧ OwnT w6 n (.slice b2 t.h.pl.length d2) t.h.pl) ∧ HOwn2 w6 w4.heap.size (.slice bp lp dp) l' ∧ l'.map Hv.x = l.map Hv.x) := ⟨three_put hk hgr (by rw [hw6]; exact heap_put2 #[.string t.log, .string t.key, .slice b0 t.en.length d0, .string t.h.log, .int .i64 t.h.size, .string t.h.root, .int .i64 t.h.time, .int .i64 t.h.k, .slice b1 t.h.el.length d1, .slice b2 t.h.pl.length d2, .slice bp lp dp, .bool t.found, .string ⟨#[]⟩, .int .i64 0, .string ⟨#[]⟩, .int .i64 0, .int .i64 0, .slice none 0 0, .slice none 0 0, .string ⟨#[]⟩, .int .i64 0, .string ⟨#[]⟩, .int .i64 0, .int .i64 0, .slice none 0 0, .slice none 0 0, .slice none 0 0] (heap_put2 #[.string t.log, .string t.key, .slice b0 t.en.length d0, .string t.h.log, .int .i64 t.h.size, .string t.h.root, .int .i64 t.h.time, .int .i64 t.h.k, .slice b1 t.h.el.length d1, .slice b2 t.h.pl.length d2, .slice bp lp dp, .bool false, .string ⟨#[]⟩, .int .i64 0, .string ⟨#[]⟩, .int .i64 0, .int .i64 0, .slice none 0 0, .slice none 0 0, .string ⟨#[]⟩, .int .i64 0, .string ⟨#[]⟩, .int .i64 0, .int .i64 0, .slice none 0 0, .slice none 0 0, .slice none 0 0] hk.1.2.2 rfl) rfl), (H4.out.2.1.below hb (Nat.le_refl _)).wide hgr (by omega), ⟨(H4.out.2.2.1.below hb (Nat.le_refl _)).wide hgr (by omega), (H4.out.2.2.2.below hb (Nat.le_refl _)).wide hgr (by omega)⟩, ho2.wide hgr (by omega), hmap⟩
  have HW6 : Hid (w6 = (w5.setCell ⟨w.heap.size + 1 + 1, 10, none⟩ (.slice bp lp dp)).setCell ⟨w.heap.size + 1 + 1, 11, none⟩ (.bool t.found)) := hw6
  have HO3 : Hid (w4.heap.size ≤ w6.heap.size ∧ w.heap.size + 3 ≤ w4.heap.size) := ⟨Nat.le_trans hb.size hgr.size, hsz⟩
  clear ho hmap hb hk hw6 hgr hsz H4 G3 ho2 hy2 hy3
  go_wp2_with fail
  rw [← HW6.out]
  clear HW6 q11 q12 q13 q14 q15 q16 q17 q18 q19 q20 q21 q22 q23 q24 q25 q26 u10 u11 f10 f11
  refine (G4.out _ H6.out.1.2.1).mono ?_
  rintro e w7 ⟨b3, d3, b4, d4, b5, d5, b6, d6, b7, d7, m0, m1, m2, m3, m4, rfl, ⟨⟨o3, o4, o5, o6, o7⟩, oq, l1, l2, l3, l4, l5⟩, hm0, hb⟩
  have hy2 := HO2.out.2.1
  have hy3 := HO2.out.2.2.2.2
  have hy4 := HO3.out
  have hk := three_kept H6.out.1 hb
  obtain ⟨w8, hw8⟩ : ∃ w8, w8 = w7.setCells (w.heap.size + 1 + 1) 12 [.string t.a.log, .int .i64 t.a.size, .string t.a.root, .int .i64 t.a.time, .int .i64 t.a.k, .slice b3 t.a.el.length d3, .slice b4 t.a.pl.length d4, .string t.b.log, .int .i64 t.b.size, .string t.b.root, .int .i64 t.b.time, .int .i64 t.b.k, .slice b5 t.b.el.length d5, .slice b6 t.b.pl.length d6, .slice b7 t.fl.length d7] := ⟨_, rfl⟩
  have hgr : w7.grownBy w8 (some (w.heap.size + 1 + 1)) := by rw [hw8]; exact setCells_grown _ _ _ _ _ (rd_refl _ _)
  have hsz := H6.out.1.2.2
  have H8 := three_put hk hgr (r4 := #[.string t.log, .string t.key, .slice b0 t.en.length d0, .string t.h.log, .int .i64 t.h.size, .string t.h.root, .int .i64 t.h.time, .int .i64 t.h.k, .slice b1 t.h.el.length d1, .slice b2 t.h.pl.length d2, .slice bp lp dp, .bool t.found, .string t.a.log, .int .i64 t.a.size, .string t.a.root, .int .i64 t.a.time, .int .i64 t.a.k, .slice b3 t.a.el.length d3, .slice b4 t.a.pl.length d4, .string t.b.log, .int .i64 t.b.size, .string t.b.root, .int .i64 t.b.time, .int .i64 t.b.k, .slice b5 t.b.el.length d5, .slice b6 t.b.pl.length d6, .slice b7 t.fl.length d7]) (by rw [hw8]; exact setCells_row2 hk.1.2.2 (by simp only [putL, List.setIfInBounds_toArray, List.set_cons_zero, List.set_cons_succ]))
  have th : w7.there (w.heap.size + 1 + 1) 12 15 := there_row hk.1.2.2 (by simp)
  obtain ⟨w9, hw9⟩ : ∃ w9, w9 = w8.setRow (w.heap.size + 1) #[.string t.log, .string t.key, .slice b0 t.en.length d0, .string t.h.log, .int .i64 t.h.size, .string t.h.root, .int .i64 t.h.time, .int .i64 t.h.k, .slice b1 t.h.el.length d1, .slice b2 t.h.pl.length d2, .slice bp lp dp, .bool t.found, .string t.a.log, .int .i64 t.a.size, .string t.a.root, .int .i64 t.a.time, .int .i64 t.a.k, .slice b3 t.a.el.length d3, .slice b4 t.a.pl.length d4, .string t.b.log, .int .i64 t.b.size, .string t.b.root, .int .i64 t.b.time, .int .i64 t.b.k, .slice b5 t.b.el.length d5, .slice b6 t.b.pl.length d6, .slice b7 t.fl.length d7] := ⟨_, rfl⟩
  have hgr2 : w8.grownBy w9 (some (w.heap.size + 1)) := by rw [hw9]; exact ⟨rfl, rfl, rfl, by simp, fun k hk hne => setRow_other w8 _ k _ (fun e => hne (by rw [e]))⟩
  have over : ∀ (B : Nat) (v : Value) (m : List ByteArray), w.heap.size + 3 ≤ B → OwnT w7 B v m → OwnT w9 B v m := fun B v m hB ho => (ho.wide hgr (by omega)).wide hgr2 (by omega)
  have HF : Hid (WIn t l w (.returned (.agg #[.string t.log, .string t.key, .slice b0 t.en.length d0, .string t.h.log, .int .i64 t.h.size, .string t.h.root, .int .i64 t.h.time, .int .i64 t.h.k, .slice b1 t.h.el.length d1, .slice b2 t.h.pl.length d2, .slice bp lp dp, .bool t.found, .string t.a.log, .int .i64 t.a.size, .string t.a.root, .int .i64 t.a.time, .int .i64 t.a.k, .slice b3 t.a.el.length d3, .slice b4 t.a.pl.length d4, .string t.b.log, .int .i64 t.b.size, .string t.b.root, .int .i64 t.b.time, .int .i64 t.b.k, .slice b5 t.b.el.length d5, .slice b6 t.b.pl.length d6, .slice b7 t.fl.length d7])) w9 ∧ w9.heap[w.heap.size + 1]? = some (.cells #[.string t.log, .string t.key, .slice b0 t.en.length d0, .string t.h.log, .int .i64 t.h.size, .string t.h.root, .int .i64 t.h.time, .int .i64 t.h.k, .slice b1 t.h.el.length d1, .slice b2 t.h.pl.length d2, .slice bp lp dp, .bool t.found, .string t.a.log, .int .i64 t.a.size, .string t.a.root, .int .i64 t.a.time, .int .i64 t.a.k, .slice b3 t.a.el.length d3, .slice b4 t.a.pl.length d4, .string t.b.log, .int .i64 t.b.size, .string t.b.root, .int .i64 t.b.time, .int .i64 t.b.k, .slice b5 t.b.el.length d5, .slice b6 t.b.pl.length d6, .slice b7 t.fl.length d7] 41 (0, 0))) := by
    obtain ⟨_, y1, ⟨y2, y3⟩, y4, y5⟩ := H6.out
    have hlt := y4.lt
    refine ⟨⟨_, _, _, _, _, _, _, _, _, l', w.heap.size + 3, w2.heap.size, n, w4.heap.size, m0, m1, m2, m3, m4, rfl, ⟨over _ _ _ (Nat.le_refl _) (y1.below hb (Nat.le_refl _)), over _ _ _ (by omega) (y2.below hb (Nat.le_refl _)), over _ _ _ (by omega) (y3.below hb (Nat.le_refl _)), ((y4.below hb).wide hgr (by omega)).wide hgr2 (by omega), ⟨over _ _ _ (by omega) o3, over _ _ _ (by omega) o4, over _ _ _ (by omega) o5, over _ _ _ (by omega) o6, over _ _ _ (by omega) o7⟩, oq, l1, l2, l3, l4, Nat.le_trans l5 (Nat.le_trans hgr.size hgr2.size)⟩,
      ⟨HO1.out, HO2.out.1, HO2.out.2.2.2.1, fun g hg => Nat.lt_of_lt_of_le (hlt.1 g hg) hm0, fun b hbm => Nat.lt_of_lt_of_le (hlt.2 b hbm) hm0⟩, ⟨by omega, by omega, by omega, HO2.out.2.2.1, by omega⟩, y5, below_own H8.2.1 hgr2 (by omega)⟩, ?_⟩
    rw [hw9]
    exact setRow_heap _ _ _ _ _ _ H8.1.2.1
  have s8 := H8.1.2.2
  have s9 := H8.1.2.1
  have HW8 : Hid (w8 = w7.setCells (w.heap.size + 1 + 1) 12 [.string t.a.log, .int .i64 t.a.size, .string t.a.root, .int .i64 t.a.time, .int .i64 t.a.k, .slice b3 t.a.el.length d3, .slice b4 t.a.pl.length d4, .string t.b.log, .int .i64 t.b.size, .string t.b.root, .int .i64 t.b.time, .int .i64 t.b.k, .slice b5 t.b.el.length d5, .slice b6 t.b.pl.length d6, .slice b7 t.fl.length d7]) := hw8
  have HW9 : Hid (w9 = w8.setRow (w.heap.size + 1) #[.string t.log, .string t.key, .slice b0 t.en.length d0, .string t.h.log, .int .i64 t.h.size, .string t.h.root, .int .i64 t.h.time, .int .i64 t.h.k, .slice b1 t.h.el.length d1, .slice b2 t.h.pl.length d2, .slice bp lp dp, .bool t.found, .string t.a.log, .int .i64 t.a.size, .string t.a.root, .int .i64 t.a.time, .int .i64 t.a.k, .slice b3 t.a.el.length d3, .slice b4 t.a.pl.length d4, .string t.b.log, .int .i64 t.b.size, .string t.b.root, .int .i64 t.b.time, .int .i64 t.b.k, .slice b5 t.b.el.length d5, .slice b6 t.b.pl.length d6, .slice b7 t.fl.length d7]) := hw9
  clear o3 o4 o5 o6 o7 oq l1 l2 l3 l4 l5 hm0 hy2 hy3 hy4 hb hk hw8 hw9 hgr hgr2 hsz H8 H6 G4 over
  go_wp2_with (first | (refine wpList_store_mid rfl 39 (.tmp 28) (.tmp 27) rfl (w.heap.size + 1 + 1) 12 #[.string t.a.log, .int .i64 t.a.size, .string t.a.root, .int .i64 t.a.time, .int .i64 t.a.k, .slice b3 t.a.el.length d3, .slice b4 t.a.pl.length d4, .string t.b.log, .int .i64 t.b.size, .string t.b.root, .int .i64 t.b.time, .int .i64 t.b.k, .slice b5 t.b.el.length d5, .slice b6 t.b.pl.length d6, .slice b7 t.fl.length d7] ?_ ?_ th (by kernel_rfl) (by simp [Value.oneCell']) ?_; rfl; rfl; rw [← HW8.out]; clear th) | (refine wpList_load_row rfl 41 (.tmp 3) rfl (w.heap.size + 1 + 1) rfl _ _ _ _ s8 Tryz.underlying41 rfl (by kernel_rfl) ?_) | (refine wpList_store_row rfl 41 (.tmp 2) (.tmp 29) rfl (w.heap.size + 1) _ rfl rfl _ _ s9 (by kernel_rfl) rfl (by simp [Value.oneCell']) ?_; rw [← HW9.out]))
  refine bodyPost_ret (v := .agg #[.string t.log, .string t.key, .slice b0 t.en.length d0, .string t.h.log, .int .i64 t.h.size, .string t.h.root, .int .i64 t.h.time, .int .i64 t.h.k, .slice b1 t.h.el.length d1, .slice b2 t.h.pl.length d2, .slice bp lp dp, .bool t.found, .string t.a.log, .int .i64 t.a.size, .string t.a.root, .int .i64 t.a.time, .int .i64 t.a.k, .slice b3 t.a.el.length d3, .slice b4 t.a.pl.length d4, .string t.b.log, .int .i64 t.b.size, .string t.b.root, .int .i64 t.b.time, .int .i64 t.b.k, .slice b5 t.b.el.length d5, .slice b6 t.b.pl.length d6, .slice b7 t.fl.length d7]) (results_cell_row rfl _ _ (w.heap.size + 1) _ _ _ _ rfl HF.out.2 Tryz.underlying41 rfl (by kernel_rfl)) rfl ?_
  exact HF.out.1
theorem toW_any (t : Wt) (l : List Hv) (v0 v1 v2 vp v3 v4 v5 v6 v7 : Value) (w : World) (hi : t.In v0 v1 v2 v3 v4 v5 v6 v7 w w.heap.size) (hh : Heads w w.heap.size vp l) (hf : t.Lens) (hl : HdsLim l) :
    Calls Tryz.prog 6 #[.agg #[.string t.log, .string t.key, v0, .string t.h.log, .int .i64 t.h.size, .string t.h.root, .int .i64 t.h.time, .int .i64 t.h.k, v1, v2, vp, .bool t.found, .string t.a.log, .int .i64 t.a.size, .string t.a.root, .int .i64 t.a.time, .int .i64 t.a.k, v3, v4, .string t.b.log, .int .i64 t.b.size, .string t.b.root, .int .i64 t.b.time, .int .i64 t.b.k, v5, v6, v7]] w fun e w' => ∃ (u0 u1 u2 up u3 u4 u5 u6 u7 : Value) (l' : List Hv), e = .returned (.agg #[.string t.log, .string t.key, u0, .string t.h.log, .int .i64 t.h.size, .string t.h.root, .int .i64 t.h.time, .int .i64 t.h.k, u1, u2, up, .bool t.found, .string t.a.log, .int .i64 t.a.size, .string t.a.root, .int .i64 t.a.time, .int .i64 t.a.k, u3, u4, .string t.b.log, .int .i64 t.b.size, .string t.b.root, .int .i64 t.b.time, .int .i64 t.b.k, u5, u6, u7]) ∧ t.In u0 u1 u2 u3 u4 u5 u6 u7 w' w'.heap.size ∧ Heads w' w'.heap.size up l' ∧ l'.map Hv.x = l.map Hv.x ∧ Below w.heap.size w w' :=
  (toW_in t l v0 v1 v2 vp v3 v4 v5 v6 v7 w hi hh hf hl).mono fun e w' ⟨u0, u1, u2, up, u3, u4, u5, u6, u7, l', _, _, _, _, _, _, _, _, _, he, ⟨y0, y1, y2, y3, ⟨o3, o4, o5, o6, o7⟩, _⟩, _, _, hm, hb⟩ => ⟨u0, u1, u2, up, u3, u4, u5, u6, u7, l', he, ⟨y0.texts, ⟨y1.texts, y2.texts⟩, ⟨o3.texts, o4.texts⟩, ⟨o5.texts, o6.texts⟩, o7.texts⟩, y3.1.heads y3.2.1, hm, hb⟩
end Go.Proofs.YtcenlgfopmahcaaGreatDoor

/-
  The document's copy of a head.
-/
namespace Go.Proofs.YtcenlgfopmahcaaGreatDoor
open Go.RowKit Go.Lib
set_option linter.unusedVariables false
set_option linter.unusedSimpArgs false

theorem Box.puts {w X : World} {T : TypeId} {cs zs : List Value} {os : List (Value × List ByteArray)} (h : Box w T cs zs os X) (hT : T ≠ 9) (o : Nat) (vs cs' : List Value) (e : putL cs.toArray o vs = cs'.toArray) : Box w T cs' zs os (X.setCells w.heap.size o vs) :=
  h.grown hT (setCells_grown _ _ _ _ _ (rd_refl _ _)) (setCells_row2 h.1 e)
/-- A head copied into rows of the call's own. -/
def HeadCp (x : Hd) (w : World) (e : Ending) (w' : World) : Prop := ∃ ue up, e = .returned (.agg #[.string x.log, .int .i64 x.size, .string x.root, .int .i64 x.time, .int .i64 x.k, ue, up]) ∧ OwnT w' w.heap.size ue x.el ∧ OwnT w' w.heap.size up x.pl ∧ Below w.heap.size w w'

set_option maxHeartbeats 4000000 in
set_option maxRecDepth 10000 in
theorem specHeadCopy_any (x : Hd) (ve vp : Value) (w : World) (h : x.In ve vp w w.heap.size) (hl : x.Lim) :
    Calls Tryz.prog 41 #[.agg #[.string x.log, .int .i64 x.size, .string x.root, .int .i64 x.time, .int .i64 x.k, ve, vp]] w (HeadCp x w) := by
  obtain ⟨a, c, b, d, rfl, rfl⟩ := h.parts
  obtain ⟨W, hW⟩ : ∃ W, W = (w.alloc (.cells #[.string x.log, .int .i64 x.size, .string x.root, .int .i64 x.time, .int .i64 x.k, .slice a x.el.length c, .slice b x.pl.length d] 37)).alloc (.cells #[.string ⟨#[]⟩, .int .i64 0, .string ⟨#[]⟩, .int .i64 0, .int .i64 0, .slice none 0 0, .slice none 0 0] 37) := ⟨_, rfl⟩
  have hB : Box w 37 [.string x.log, .int .i64 x.size, .string x.root, .int .i64 x.time, .int .i64 x.k, .slice a x.el.length c, .slice b x.pl.length d] [.string ⟨#[]⟩, .int .i64 0, .string ⟨#[]⟩, .int .i64 0, .int .i64 0, .slice none 0 0, .slice none 0 0] [] W := by rw [hW]; exact Box.start w _ _ _
  have E1 : Hid (Calls Tryz.prog 58 #[.agg #[.int .i64 x.k, .slice a x.el.length c, .slice b x.pl.length d]] W fun e w' => ∃ ue up, e = .returned (.agg #[.int .i64 x.k, ue, up]) ∧ OwnT w' W.heap.size ue x.el ∧ OwnT w' W.heap.size up x.pl ∧ Below W.heap.size W w') := specSigCopy_any x.k _ _ x.el x.pl W (h.1.on hB.2.2.1) (h.2.on hB.2.2.1) hl.2.2.1 hl.2.2.2
  have HW : Hid (W = (w.alloc (.cells #[.string x.log, .int .i64 x.size, .string x.root, .int .i64 x.time, .int .i64 x.k, .slice a x.el.length c, .slice b x.pl.length d] 37)).alloc (.cells #[.string ⟨#[]⟩, .int .i64 0, .string ⟨#[]⟩, .int .i64 0, .int .i64 0, .slice none 0 0, .slice none 0 0] 37)) := hW
  have HB : Hid (Box w 37 [.string x.log, .int .i64 x.size, .string x.root, .int .i64 x.time, .int .i64 x.k, .slice a x.el.length c, .slice b x.pl.length d] [.string ⟨#[]⟩, .int .i64 0, .string ⟨#[]⟩, .int .i64 0, .int .i64 0, .slice none 0 0, .slice none 0 0] [] W) := hB
  have X0 : W.rangeAt w.heap.size 4 [.int .i64 x.k, .slice a x.el.length c, .slice b x.pl.length d] := World.rangeAt_of_block hB.1 4 3
  clear h hl hW hB
  generalize hn1 : x.el.length = n1 at *
  generalize hn2 : x.pl.length = n2 at *
  have HNE : Hid (x.el.length = n1 ∧ x.pl.length = n2) := ⟨hn1, hn2⟩
  clear hn1 hn2
  go_enter Tryz.func41, Tryz.ntmps41
  go_wp2_with (first
    | (rw [← HW.out])
    | (refine wpList_load_mid rfl 35 (.tmp 3) rfl w.heap.size 4 rfl [.int .i64 x.k, .slice a n1 c, .slice b n2 d] _ X0 Tryz.underlying35 rfl (by kernel_rfl) ?_))
  clear X0 HW
  refine E1.out.mono ?_
  rintro e w1 ⟨ue, up, rfl, o1, o2, hb⟩
  obtain ⟨u1, m1, rfl⟩ := o1.len
  obtain ⟨u2, m2, rfl⟩ := o2.len
  rw [HNE.out.1] at o1 ⊢
  rw [HNE.out.2] at o2 ⊢
  have hB1 := ((HB.out.below hb).add (o1.lower HB.out.2.2.1.size)).add (o2.lower HB.out.2.2.1.size)
  have hP := hB1.puts (by decide) 4 [.int .i64 x.k, .slice u1 n1 m1, .slice u2 n2 m2] [.string x.log, .int .i64 x.size, .string x.root, .int .i64 x.time, .int .i64 x.k, .slice u1 n1 m1, .slice u2 n2 m2] (by simp only [putL, List.setIfInBounds_toArray, List.set_cons_zero, List.set_cons_succ])
  obtain ⟨Z, hZ⟩ : ∃ Z, Z = w1.setCells w.heap.size 4 [.int .i64 x.k, .slice u1 n1 m1, .slice u2 n2 m2] := ⟨_, rfl⟩
  rw [← hZ] at hP
  have HZ : Hid (Z = w1.setCells w.heap.size 4 [.int .i64 x.k, .slice u1 n1 m1, .slice u2 n2 m2]) := hZ
  have th : w1.there w.heap.size 4 3 := there_row hB1.1 (by simp)
  have H3 : Hid (Box w 37 [.string x.log, .int .i64 x.size, .string x.root, .int .i64 x.time, .int .i64 x.k, .slice u1 n1 m1, .slice u2 n2 m2] [.string ⟨#[]⟩, .int .i64 0, .string ⟨#[]⟩, .int .i64 0, .int .i64 0, .slice none 0 0, .slice none 0 0] [(.slice u2 n2 m2, x.pl), (.slice u1 n1 m1, x.el)] Z) := hP
  have r0 := hP.1
  have r1 := hP.2.1
  clear o1 o2 hb hB1 hP hZ E1 HB
  go_wp2_with (first
    | (refine wpList_store_mid rfl 35 (.tmp 6) (.tmp 5) rfl w.heap.size 4 #[.int .i64 x.k, .slice u1 n1 m1, .slice u2 n2 m2] ?_ ?_ th (by kernel_rfl) (by simp [Value.oneCell']) ?_; rfl; rfl; rw [← HZ.out]; clear th)
    | (refine wpList_load_row rfl 37 (.tmp 1) rfl w.heap.size rfl _ _ _ _ r0 Tryz.underlying37 rfl (by kernel_rfl) ?_)
    | (refine wpList_store_row rfl 37 (.tmp 2) (.tmp 7) rfl (w.heap.size + 1) #[.string x.log, .int .i64 x.size, .string x.root, .int .i64 x.time, .int .i64 x.k, .slice u1 n1 m1, .slice u2 n2 m2] rfl rfl _ _ r1 (by kernel_rfl) rfl (by simp [Value.oneCell']) ?_))
  have ho := H3.out.2.2.2
  refine bodyPost_ret (v := _) (results_cell_row rfl _ _ (w.heap.size + 1) _ _ _ _ rfl (setRow_heap _ _ _ _ _ _ r1) Tryz.underlying37 rfl (by kernel_rfl)) rfl ⟨_, _, rfl, ?_, ?_, below_setRow H3.out.2.2.1 (by omega) _⟩
  · exact (ho _ (List.mem_cons_of_mem _ (List.mem_cons_self ..))).past (setRow_grown Z (w.heap.size + 1) _) r1 (by decide)
  · exact (ho _ (List.mem_cons_self ..)).past (setRow_grown Z (w.heap.size + 1) _) r1 (by decide)
end Go.Proofs.YtcenlgfopmahcaaGreatDoor

/-
  A row of heads put behind another one.
-/
namespace Go.Proofs.YtcenlgfopmahcaaGreatDoor
open Go.RowKit Go.Lib
set_option linter.unusedVariables false
set_option linter.unusedSimpArgs false

theorem WaitMid.row {w X : World} {l l' : List Hv} {v : Value} (h : WaitMid w l l' l.length v X) : HRow X w.heap.size v l' ∧ l'.map Hv.x = l.map Hv.x := by
  obtain ⟨e1, e2, hrow, _⟩ := h
  unfold HRow
  rw [e1]
  exact ⟨hrow, by rw [e2.1, List.take_length]⟩
theorem flat_back : ∀ (l : List Hv) (n : Nat) (v : Value), (l.flatMap Hv.cells)[n]? = some v → ∃ j i, ∃ hj : j < l.length, n = j * 7 + i ∧ l[j].cells[i]? = some v
  | q :: r, n, v, h => by
    rw [List.flatMap_cons] at h
    by_cases hn : n < 7
    · rw [List.getElem?_append_left (by rw [cells_len]; exact hn)] at h
      exact ⟨0, n, by simp, by omega, h⟩
    · rw [List.getElem?_append_right (by rw [cells_len]; omega), cells_len] at h
      obtain ⟨j, i, hj, e, h2⟩ := flat_back r (n - 7) v h
      exact ⟨j + 1, i, by simpa using hj, by omega, h2⟩
theorem app_none_h {w : World} {A c n : Nat} {ty : TypeId} {v : Value} {xs : List Value} (hown : w.ownsRow A 37 7 v n xs) : (Builtin.append_ #[33, 33] ty #[v, .slice none 0 c]).run Tryz.prog w = .ok v w := by
  obtain ⟨i0, z0, hi, hz0, hz1, hz2, hz3⟩ := head_info
  rcases hown with ⟨_, ⟨rfl, _⟩ | ⟨g, cap, cur, rfl, _, _, hnc, _⟩⟩
  · simp [Builtin.append_, run_underlying Tryz.underlying33, sizeOf, typeInfo, hi, Builtin.lenOf, Builtin.firstCells]
  · simp [Builtin.append_, run_underlying Tryz.underlying33, sizeOf, typeInfo, hi, Builtin.lenOf, Builtin.firstCells, hnc, storeCells]
theorem Hv.oneCells (q : Hv) (he : ∃ a n c, q.e = .slice a n c) (hp : ∃ a n c, q.p = .slice a n c) : ∀ u ∈ q.cells, u.oneCell' = true := by
  obtain ⟨a, n, c, he⟩ := he
  obtain ⟨a', n', c', hp⟩ := hp
  intro u hu
  unfold Hv.cells at hu
  rw [he, hp] at hu
  simp only [List.mem_cons, List.not_mem_nil, or_false] at hu
  rcases hu with rfl | rfl | rfl | rfl | rfl | rfl | rfl <;> rfl
/-- 'append(row, more...)', row the call's own: it owns what both held. -/
theorem wp_app_heads {w : World} {ops : Array Oper} {rest : List Oper} {o : Oper} {a : Act} {Q : Exit → Act → World → Prop} (hgd : o.guard = none) (s x : Operand)
    (ho : o.op = .call { callee := .builtin .append, args := #[s, x], argTypes := #[33, 33] }) (A : Nat) (v vx : Value) (l more : List Hv) (hs : a.eval s = v) (hown : HRow w A v l)
    (hx : a.eval x = vx) (hm : Heads w w.heap.size vx more) (hl : l.length ≤ 1048576) (hml : more.length ≤ 1048577) (hA : A ≤ w.heap.size)
    (h : ∀ v' w', HRow w' A v' (l ++ more) → w.grownBy w' v.ownBlock → wpList Tryz.prog ops Q rest (a.put o.dst v') w') : wpList Tryz.prog ops Q (o :: rest) a w := by
  obtain ⟨⟨ax, capx, rfl, hcap, hc⟩, hin⟩ := hm
  obtain ⟨i0, z0, hi, hz0, hz1, hz2, hz3⟩ := head_info
  cases ax with
  | none =>
    have h0 : more.length = 0 := by
      rcases hc with h0 | ⟨b, off, h1, _⟩
      · exact h0
      · cases h1
    obtain rfl := List.eq_nil_of_length_eq_zero h0
    refine wpList_plain hgd fun K hK => ?_
    have hrun := app_none_h (c := capx) (ty := o.type) hown
    unfold Oper.wp
    rw [List.length_nil] at hx
    simp [execOp, ho, resolve, invoke, builtin, hs, hx, hrun, Result.andThen]
    exact hK _ _ (h _ _ (by rw [List.append_nil]; exact hown) ⟨rfl, rfl, rfl, Nat.le_refl _, fun _ _ _ => rfl⟩)
  | some ad =>
    refine wpList_append_own _ hgd s x 33 ho A 37 i0 z0 7 104 Tryz.underlying33 hi hz0 hz1 hz2 hz3 (by decide) v l.length (l.flatMap Hv.cells) hs hown ad more.length capx (more.flatMap Hv.cells) hx (flat_len more)
      ?_ ?_ (by unfold maxLen; omega) (by omega) hA ?_
    · intro n u hu
      obtain ⟨j, i, hj, rfl, h2⟩ := flat_back more n u hu
      rcases hc with h0 | ⟨b, off, h1, hbB, hcell⟩
      · omega
      · obtain rfl := Option.some.inj h1
        have hadd : (⟨b, off, none⟩ : Addr).add (j * 7 + i) = ⟨b, off + (j * 7 + i), none⟩ := by unfold Addr.add; split <;> simp_all
        rw [hadd, ← Nat.add_assoc]
        exact hcell j hj i u h2
    · intro u hu
      obtain ⟨q, hq, hu2⟩ := List.mem_flatMap.1 hu
      obtain ⟨j, hj, rfl⟩ := List.getElem_of_mem hq
      obtain ⟨a1, c1, a2, c2, he, hp⟩ := (hin j hj).parts
      exact Hv.oneCells _ ⟨a1, _, c1, he⟩ ⟨a2, _, c2, hp⟩ u hu2
    · intro v' w' h1 h2 _
      refine h v' w' ?_ h2
      unfold HRow
      simpa using h1
theorem HRow.below {X Y : World} {A : Nat} {v : Value} {l : List Hv} (h : HRow X A v l) (hb : Below X.heap.size X Y) : HRow Y A v l := ownsRow_below h hb
theorem HRow.lower {X : World} {A A' : Nat} {v : Value} {l : List Hv} (h : HRow X A v l) (hA : A' ≤ A) : HRow X A' v l := ownsRow_lower h hA
/-- A block that was made for one head. -/
theorem HRow.one (w : World) (A : Nat) (q : Hv) (hA : A ≤ w.heap.size) : HRow (w.alloc (.cells q.cells.toArray 37)) A (.slice (some ⟨w.heap.size, 0, none⟩) 1 1) [q] := by
  refine ⟨rfl, .inr ⟨w.heap.size, 1, q.cells.toArray, rfl, hA, heap_alloc_new w _, Nat.le_refl _, by unfold maxLen; omega, rfl, ?_⟩⟩
  simp only [List.flatMap_cons, List.flatMap_nil, List.append_nil]
  exact List.take_of_length_le (by simp [cells_len])
end Go.Proofs.YtcenlgfopmahcaaGreatDoor

/-
  What KeyRoot answers.
-/
namespace Go.Proofs.YtcenlgfopmahcaaGreatDoor
open Go.RowKit Go.Lib
set_option linter.unusedVariables false
set_option linter.unusedSimpArgs false

def keyV (s : ByteArray) : ByteArray := if seedB s then treeB (pubsB s) else ByteArray.empty
theorem pubs_right (s : ByteArray) : rightB (pubsB s) = true := by
  rw [rightB_short (by rw [pubsB_len]; omega)]
  exact smallB_yes fun j hj => by
    have := pubsB_size s j hj
    omega
theorem treeV_pubs (s : ByteArray) : treeV (pubsB s) = treeB (pubsB s) := by unfold treeV; rw [if_pos (pubs_right s)]
end Go.Proofs.YtcenlgfopmahcaaGreatDoor

/-
  The path of an entry, the proof of the first ones: what is told.
-/
namespace Go.Proofs.YtcenlgfopmahcaaGreatDoor
open Go.RowKit Go.Lib
set_option linter.unusedVariables false

def pathB (l : List ByteArray) (i : Nat) : List ByteArray := pathD nodeB noneB (l.map leafB) i
theorem pathB_one {l : List ByteArray} (i : Nat) (h : l.length = 1) : pathB l i = [] := pathD_one nodeB noneB i (by simp; omega)
theorem pathB_left {l : List ByteArray} {i : Nat} (h : 2 ≤ l.length) (hi : i < half l.length) : pathB l i = pathB (l.take (half l.length)) i ++ [treeB (l.drop (half l.length))] := by
  unfold pathB treeB
  rw [pathD_left nodeB noneB (by simpa using h) (by simpa using hi), List.length_map, List.map_take, List.map_drop]
theorem pathB_right {l : List ByteArray} {i : Nat} (h : 2 ≤ l.length) (hi : ¬ i < half l.length) : pathB l i = pathB (l.drop (half l.length)) (i - half l.length) ++ [treeB (l.take (half l.length))] := by
  unfold pathB treeB
  rw [pathD_right nodeB noneB (by simpa using h) (by simpa using hi), List.length_map, List.map_take, List.map_drop]
theorem pathB_len (n : Nat) : ∀ (l : List ByteArray) (i : Nat), l.length = n → (pathB l i).length ≤ n := by
  induction n using Nat.strongRecOn with
  | ind n ih =>
    intro l i hn
    by_cases h : l.length < 2
    · rw [pathB, pathD_one nodeB noneB i (by simpa using h)]; simp
    · obtain ⟨e, he, hk1, hk2⟩ := half_spec (show 2 ≤ l.length by omega)
      have hp := Nat.two_pow_pos e
      by_cases hi : i < half l.length
      · have := ih (half l.length) (by omega) (l.take (half l.length)) i (by rw [List.length_take]; omega)
        rw [pathB_left (by omega) hi, List.length_append, List.length_singleton]
        omega
      · have := ih (n - half l.length) (by omega) (l.drop (half l.length)) (i - half l.length) (by rw [List.length_drop]; omega)
        rw [pathB_right (by omega) hi, List.length_append, List.length_singleton]
        omega
/-- What PathOf tells. -/
def pathV (l : List ByteArray) (i : Int) : List ByteArray := if rightB l = true ∧ 0 ≤ i ∧ i < (l.length : Int) then pathB l i.toNat else []

def proofB (m : Nat) (l : List ByteArray) (whole : Bool) : List ByteArray := proofD nodeB noneB m (l.map leafB) whole
theorem proofB_all {m : Nat} {l : List ByteArray} (w : Bool) (h : m = l.length) : proofB m l w = if w then [] else [treeB l] := by
  have := proofD_all nodeB noneB (l.map leafB) w
  rw [List.length_map] at this
  rw [proofB, h, this]
  rfl
theorem proofB_left {m : Nat} {l : List ByteArray} (w : Bool) (h : 2 ≤ l.length) (hm : m < l.length) (hk : m ≤ half l.length) : proofB m l w = proofB m (l.take (half l.length)) w ++ [treeB (l.drop (half l.length))] := by
  unfold proofB treeB
  rw [proofD_left nodeB noneB w (by simpa using h) (by simpa using hm) (by simpa using hk), List.length_map, List.map_take, List.map_drop]
theorem proofB_right {m : Nat} {l : List ByteArray} (w : Bool) (h : 2 ≤ l.length) (hm : m < l.length) (hk : ¬ m ≤ half l.length) : proofB m l w = proofB (m - half l.length) (l.drop (half l.length)) false ++ [treeB (l.take (half l.length))] := by
  unfold proofB treeB
  rw [proofD_right nodeB noneB w (by simpa using h) (by simpa using hm) (by simpa using hk), List.length_map, List.map_take, List.map_drop]
theorem proofB_len (n : Nat) : ∀ (l : List ByteArray) (m : Nat) (w : Bool), l.length = n → (proofB m l w).length ≤ n + 1 := by
  induction n using Nat.strongRecOn with
  | ind n ih =>
    intro l m w hn
    by_cases h : m = l.length ∨ l.length < 2
    · have e : proofB m l w = if w then [] else [treeB l] := by
        unfold proofB
        rw [proofD_eq, if_pos (by simpa using h)]
        rfl
      rw [e]
      cases w <;> simp
    · by_cases hm : m < l.length
      · obtain ⟨e, he, hk1, hk2⟩ := half_spec (show 2 ≤ l.length by omega)
        have hp := Nat.two_pow_pos e
        by_cases hi : m ≤ half l.length
        · have := ih (half l.length) (by omega) (l.take (half l.length)) m w (by rw [List.length_take]; omega)
          rw [proofB_left w (by omega) hm hi, List.length_append, List.length_singleton]
          omega
        · have := ih (n - half l.length) (by omega) (l.drop (half l.length)) (m - half l.length) false (by rw [List.length_drop]; omega)
          rw [proofB_right w (by omega) hm hi, List.length_append, List.length_singleton]
          omega
      · obtain ⟨e, he, hk1, hk2⟩ := half_spec (show 2 ≤ l.length by omega)
        have hp := Nat.two_pow_pos e
        have := ih (n - half l.length) (by omega) (l.drop (half l.length)) (m - half l.length) false (by rw [List.length_drop]; omega)
        have e2 : proofB m l w = proofB (m - half l.length) (l.drop (half l.length)) false ++ [treeB (l.take (half l.length))] := by
          unfold proofB treeB
          rw [proofD_eq, if_neg (by simpa using h), if_neg (by simp; omega), List.length_map, List.map_take, List.map_drop]
        rw [e2, List.length_append, List.length_singleton]
        omega
/-- What ProofOf tells. -/
def proofV (l : List ByteArray) (m : Int) : List ByteArray := if rightB l = true ∧ 1 ≤ m ∧ m ≤ (l.length : Int) then proofB m.toNat l true else []
end Go.Proofs.YtcenlgfopmahcaaGreatDoor

/-
  What Sign answers.
-/
namespace Go.Proofs.YtcenlgfopmahcaaGreatDoor
open Go.RowKit Go.Lib
set_option linter.unusedVariables false
set_option linter.unusedSimpArgs false

/-- May it be signed? -/
def signB (s : ByteArray) (k : Int) (t : ByteArray) : Bool := seedB s && decide (0 ≤ k ∧ k ≤ 3) && decide ((t.size : Int) ≤ 20000)
theorem signB_yes {s t : ByteArray} {k : Int} (h : signB s k t = true) : seedB s = true ∧ 0 ≤ k ∧ k ≤ 3 ∧ (t.size : Int) ≤ 20000 := by
  unfold signB at h
  simp at h
  exact ⟨h.1.1, h.1.2.1, h.1.2.2, by omega⟩
theorem signB_no {s t : ByteArray} {k : Int} (h : ¬ signB s k t = true) : seedB s = false ∨ (seedB s = true ∧ ¬ (0 ≤ k ∧ k ≤ 3)) ∨ (seedB s = true ∧ (0 ≤ k ∧ k ≤ 3) ∧ 20000 < (t.size : Int)) := by
  cases hs : seedB s with
  | false => exact .inl rfl
  | true =>
    refine .inr ?_
    by_cases hk : 0 ≤ k ∧ k ≤ 3
    · refine .inr ⟨rfl, hk, ?_⟩
      unfold signB at h
      rw [hs, decide_eq_true hk] at h
      simp at h
      omega
    · exact .inl ⟨rfl, hk⟩
/-- The Key, the Ends and the Path that Sign answers. -/
def sigKey (s : ByteArray) (k : Int) (t : ByteArray) : Int := if signB s k t then k else 0
def sigEnds (s : ByteArray) (k : Int) (t : ByteArray) : List ByteArray := if signB s k t then endsB s k t else []
def sigPath (s : ByteArray) (k : Int) (t : ByteArray) : List ByteArray := if signB s k t then pathB (pubsB s) k.toNat else []
theorem pathV_pubs (s : ByteArray) {k : Int} (h0 : 0 ≤ k) (h1 : k ≤ 3) : pathV (pubsB s) k = pathB (pubsB s) k.toNat := by
  unfold pathV
  rw [if_pos ⟨pubs_right s, h0, by rw [pubsB_len]; omega⟩]
end Go.Proofs.YtcenlgfopmahcaaGreatDoor
