/-
  A row of heads that came in: its copy.
-/
import Derived.Test.YtcenlgfopmahcaaGreatDoorPkPoolMap
import Derived.Test.YtcenlgfopmahcaaGreatDoorPkHRowV
namespace Go.Proofs.YtcenlgfopmahcaaGreatDoor
open Go.RowKit Go.Lib
set_option linter.unusedVariables false
set_option linter.unusedSimpArgs false

/-- What is written into a row from the cell o on. -/
def putL : Array Value → Nat → List Value → Array Value
  | cs, _, [] => cs
  | cs, o, v :: r => putL (cs.setIfInBounds o v) (o + 1) r
theorem setCells_row {b : Nat} {t : TypeId} : ∀ (vs : List Value) (o : Nat) (cs : Array Value) (w : World), w.heap[b]? = some (.cells cs t (0, 0)) → (w.setCells b o vs).heap[b]? = some (.cells (putL cs o vs) t (0, 0))
  | [], o, cs, w, h => h
  | v :: r, o, cs, w, h => by
    rw [World.setCells]
    exact setCells_row r (o + 1) _ _ (heap_put h)
theorem putL_size : ∀ (vs : List Value) (o : Nat) (cs : Array Value), (putL cs o vs).size = cs.size
  | [], o, cs => rfl
  | v :: r, o, cs => by rw [putL, putL_size r, Array.size_setIfInBounds]
theorem setCells_grown (b : Nat) : ∀ (vs : List Value) (o : Nat) (w w0 : World), w0.grownBy w (some b) → w0.grownBy (w.setCells b o vs) (some b)
  | [], o, w, w0, h => h
  | v :: r, o, w, w0, h => by
    rw [World.setCells]
    exact setCells_grown b r (o + 1) _ w0 (grown_cell h o v)
theorem OwnT.wide {w w' : World} {B g : Nat} {v : Value} {l : List ByteArray} (h : OwnT w B v l) (hg : w.grownBy w' (some g)) (hB : g < B) : OwnT w' B v l :=
  h.aside ⟨hg.os, hg.tape, hg.output, hg.size, fun i hi ho => hg.block i hi (by simp; omega)⟩ (B := g) (C := g + 1) (fun b hb => .inr (by have := (World.ownsRow.lt h b hb).1; omega))
/-- A made row of n heads' cells. -/
theorem make_heads (w : World) (n : Nat) (hn : n ≤ 1048576) : ∃ w1, (Instr.makeSlice 33 (.int .i64 (n : Int)) (.int .i64 (n : Int))).run Tryz.prog w = .ok (.slice (some ⟨w.heap.size, 0, none⟩) n n) w1 ∧ w1.there w.heap.size 0 (n * 7) ∧ Below w.heap.size w w1 ∧ w1.heap.size = w.heap.size + 1 ∧ ∃ cur : Array Value, w1.heap[w.heap.size]? = some (.cells cur 37 (0, 0)) ∧ cur.size = n * 7 := by
  obtain ⟨i, hi, hz⟩ : ∃ i, Tryz.prog.info? 37 = some i ∧ (i.zero.isSome = true ∧ i.size = 7 ∧ i.bytes ≤ 1000) := by
    have h : (Tryz.prog.info? 37).map (fun i => decide (i.zero.isSome = true ∧ i.size = 7 ∧ i.bytes ≤ 1000)) = some true := by kernel_rfl
    obtain ⟨i, hi, h2⟩ := Option.map_eq_some_iff.1 h
    exact ⟨i, hi, of_decide_eq_true h2⟩
  obtain ⟨z, hzz⟩ := Option.isSome_iff_exists.1 hz.1
  have hr := run_make (P := Tryz.prog) w 33 37 i z Tryz.underlying33 hi hzz .i64 .i64 (n : Int) (n : Int) (by omega) (Int.le_refl _) (by
    have h1 : (i.bytes : Int) * (n : Int) ≤ 1000 * 1048576 := Int.mul_le_mul (by omega) (by omega) (by omega) (by omega)
    omega) (by omega)
  simp only [Int.toNat_natCast, hz.2.1] at hr
  refine ⟨_, hr, fun j hj => ?_, (Below.refl _ _).alloc (Nat.le_refl _) _, by simp, _, heap_alloc_new w _, by rw [size_madeCells]⟩
  have hg := heap_alloc_new w (.cells (madeCells z.cells (n * 7)) 37)
  refine ⟨?_, row_free hg _⟩
  rw [cell_of_row _ _ _ _ _ _ hg, Nat.zero_add, Array.getElem?_eq_getElem (by rw [size_madeCells]; exact hj)]
  rfl
/-- k heads are copied into the block g. -/
def HdsMid (w : World) (g n : Nat) (l : List Hv) (k : Nat) (X : World) : Prop :=
  ∃ l' : List Hv, l'.length = k ∧ l'.map Hv.x = (l.take k).map Hv.x ∧ (∀ j (hj : j < l'.length), l'[j].At X g (j * 7) ∧ OwnT X (g + 1) l'[j].e l'[j].x.el ∧ OwnT X (g + 1) l'[j].p l'[j].x.pl) ∧ X.there g 0 (n * 7) ∧ g < X.heap.size ∧ Below w.heap.size w X ∧ w.heap.size ≤ g ∧ (blks l').Nodup ∧ ∃ cur : Array Value, X.heap[g]? = some (.cells cur 37 (0, 0)) ∧ cur.size = n * 7
theorem HdsMid.put {w : World} {g n k : Nat} {l : List Hv} {X Y : World} {q : Hv} (h : HdsMid w g n l k X) (hk : k < l.length) (hkn : k < n) (hx : q.x = l[k].x) (hb : Below X.heap.size X Y) (h1 : OwnT Y X.heap.size q.e q.x.el) (h2 : OwnT Y X.heap.size q.p q.x.pl) (hne : ∀ g, q.e.ownBlock = some g → q.p.ownBlock ≠ some g) :
    HdsMid w g n l (k + 1) (Y.setCells g (k * 7) q.cells) ∧ Y.there g (k * 7) 7 := by
  obtain ⟨l', e1, e2, hj', ht, hg, hbw, hwg, hnd, cur, hcur, hcs⟩ := h
  have hgY : Y.heap[g]? = X.heap[g]? := hb.block g hg
  have htY : Y.there g 0 (n * 7) := fun j hj => by
    have := ht j hj
    simp only [World.cell?, World.frozen?, hgY] at this ⊢
    exact this
  have ht7 : Y.there g (k * 7) 7 := fun j hj => by
    have := htY (k * 7 + j) (by omega)
    rw [Nat.zero_add] at this
    exact this
  have hgr : Y.grownBy (Y.setCells g (k * 7) q.cells) (some g) := setCells_grown g _ _ _ _ (rd_refl _ _)
  have hsz := hb.size
  refine ⟨⟨l' ++ [q], by simp [e1], ?_, ?_, World.there_setCells htY _ _ _, Nat.lt_of_lt_of_le (by omega) hgr.size, below_own (hbw.trans (hb.mono hbw.size)) hgr hwg, hwg, ?_, _, setCells_row _ _ _ _ (hgY.trans hcur), by rw [putL_size, hcs]⟩, ht7⟩
  · rw [List.map_append, e2, List.take_succ_eq_append_getElem hk, List.map_append]
    simp [hx]
  · intro j hj
    by_cases hjk : j < k
    · have hjl : j < l'.length := by omega
      rw [List.getElem_append_left hjl]
      obtain ⟨a1, a2, a3⟩ := hj' j hjl
      refine ⟨?_, (a2.below hb (Nat.le_refl _)).wide hgr (by omega), (a3.below hb (Nat.le_refl _)).wide hgr (by omega)⟩
      exact World.rangeAt_setCells_apart (a1.same hgY).range g (k * 7) q.cells (.inr (.inl (by show j * 7 + 7 ≤ k * 7; omega)))
    · have ejk : j = l'.length := by simp at hj; omega
      subst ejk
      rw [List.getElem_append_right (Nat.le_refl _)]
      simp only [Nat.sub_self, List.getElem_cons_zero]
      refine ⟨?_, (h1.lower (by omega)).wide hgr (by omega), (h2.lower (by omega)).wide hgr (by omega)⟩
      rw [e1]
      exact World.rangeAt_setCells_same Y g (k * 7) q.cells ht7
  · refine blks_snoc hnd hne fun a ha b hbb => ?_
    obtain ⟨q', hq', ha2⟩ := List.mem_flatMap.1 ha
    obtain ⟨j, hj, rfl⟩ := List.getElem_of_mem hq'
    have hlt : a < X.heap.size := by
      rcases List.mem_append.1 ha2 with h3 | h3
      · exact (World.ownsRow.lt (hj' j hj).2.1 a (mem_blk.1 h3)).2
      · exact (World.ownsRow.lt (hj' j hj).2.2 a (mem_blk.1 h3)).2
    have hge : X.heap.size ≤ b := by
      rcases List.mem_append.1 hbb with h3 | h3
      · exact (World.ownsRow.lt h1 b (mem_blk.1 h3)).1
      · exact (World.ownsRow.lt h2 b (mem_blk.1 h3)).1
    omega
/-- A row of heads that lies, with all that its heads have, from the block A on. -/
def HOwn (X : World) (A : Nat) (v : Value) (l : List Hv) : Prop :=
  (∃ g cap, v = .slice (some ⟨g, 0, none⟩) l.length cap ∧ l.length ≤ cap ∧ A ≤ g ∧ g < X.heap.size ∧ ∀ j (hj : j < l.length), l[j].At X g (j * 7)) ∧ ∀ j (hj : j < l.length), OwnT X A l[j].e l[j].x.el ∧ OwnT X A l[j].p l[j].x.pl
/-- The same, and the blocks of their texts are different ones. -/
def HOwn2 (X : World) (A : Nat) (v : Value) (l : List Hv) : Prop := HRow X A v l ∧ (∀ j (hj : j < l.length), OwnT X A l[j].e l[j].x.el ∧ OwnT X A l[j].p l[j].x.pl) ∧ (blks l).Nodup
theorem HOwn2.below {X Y : World} {A : Nat} {v : Value} {l : List Hv} (h : HOwn2 X A v l) (hb : Below X.heap.size X Y) : HOwn2 Y A v l := by
  refine ⟨⟨h.1.1, ?_⟩, fun j hj => ⟨(h.2.1 j hj).1.below hb (Nat.le_refl _), (h.2.1 j hj).2.below hb (Nat.le_refl _)⟩, h.2.2⟩
  rcases h.1.2 with hn | ⟨g, cap, cur, rfl, hB, hg, rest⟩
  · exact .inl hn
  · exact .inr ⟨g, cap, cur, rfl, hB, (hb.block _ (Array.getElem?_eq_some_iff.1 hg).1).trans hg, rest⟩
theorem HOwn2.wide {X Y : World} {A b : Nat} {v : Value} {l : List Hv} (h : HOwn2 X A v l) (hg : X.grownBy Y (some b)) (hb : b < A) : HOwn2 Y A v l := by
  refine ⟨⟨h.1.1, ?_⟩, fun j hj => ⟨(h.2.1 j hj).1.wide hg hb, (h.2.1 j hj).2.wide hg hb⟩, h.2.2⟩
  rcases h.1.2 with hn | ⟨g, cap, cur, rfl, hB, hgg, rest⟩
  · exact .inl hn
  · exact .inr ⟨g, cap, cur, rfl, hB, (hg.block g (Array.getElem?_eq_some_iff.1 hgg).1 (by simp; omega)).trans hgg, rest⟩
/-- All its blocks lie ahead. -/
theorem HOwn2.lt {X : World} {A : Nat} {v : Value} {l : List Hv} (h : HOwn2 X A v l) : (∀ g, v.ownBlock = some g → g < X.heap.size) ∧ ∀ b ∈ blks l, b < X.heap.size := by
  refine ⟨fun g hg => (World.ownsRow.lt h.1 g hg).2, fun b hb => ?_⟩
  obtain ⟨q, hq, hb2⟩ := List.mem_flatMap.1 hb
  obtain ⟨j, hj, rfl⟩ := List.getElem_of_mem hq
  rcases List.mem_append.1 hb2 with h3 | h3
  · exact (World.ownsRow.lt (h.2.1 j hj).1 b (mem_blk.1 h3)).2
  · exact (World.ownsRow.lt (h.2.1 j hj).2 b (mem_blk.1 h3)).2
theorem HOwn.heads {X : World} {A : Nat} {v : Value} {l : List Hv} (h : HOwn X A v l) : Heads X X.heap.size v l := by
  obtain ⟨⟨g, cap, hv, hc, hA, hg, hat⟩, ho⟩ := h
  exact ⟨⟨_, cap, hv, hc, .inr ⟨g, 0, rfl, hg, fun j hj => by rw [Nat.zero_add]; exact hat j hj⟩⟩, fun j hj => ⟨(ho j hj).1.texts, (ho j hj).2.texts⟩⟩
theorem HOwn.below {X Y : World} {A : Nat} {v : Value} {l : List Hv} (h : HOwn X A v l) (hb : Below X.heap.size X Y) : HOwn Y A v l := by
  obtain ⟨⟨g, cap, hv, hc, hA, hg, hat⟩, ho⟩ := h
  exact ⟨⟨g, cap, hv, hc, hA, Nat.lt_of_lt_of_le hg hb.size, fun j hj => (hat j hj).same (hb.block g hg)⟩, fun j hj => ⟨(ho j hj).1.below hb (Nat.le_refl _), (ho j hj).2.below hb (Nat.le_refl _)⟩⟩
theorem HOwn.wide {X Y : World} {A b : Nat} {v : Value} {l : List Hv} (h : HOwn X A v l) (hg : X.grownBy Y (some b)) (hb : b < A) : HOwn Y A v l := by
  obtain ⟨⟨g, cap, hv, hc, hA, hgl, hat⟩, ho⟩ := h
  exact ⟨⟨g, cap, hv, hc, hA, Nat.lt_of_lt_of_le hgl hg.size, fun j hj => (hat j hj).same (hg.block g hgl (by simp; omega))⟩, fun j hj => ⟨(ho j hj).1.wide hg hb, (ho j hj).2.wide hg hb⟩⟩
theorem HOwn.lower {X : World} {A A' : Nat} {v : Value} {l : List Hv} (h : HOwn X A v l) (hA : A' ≤ A) : HOwn X A' v l := by
  obtain ⟨⟨g, cap, hv, hc, h1, hgl, hat⟩, ho⟩ := h
  exact ⟨⟨g, cap, hv, hc, Nat.le_trans hA h1, hgl, hat⟩, fun j hj => ⟨(ho j hj).1.lower hA, (ho j hj).2.lower hA⟩⟩
theorem HdsMid.done {w : World} {g n : Nat} {l : List Hv} {X : World} (h : HdsMid w g n l n X) (hn : n = l.length) (hl : l.length ≤ 1048576) : ∃ l', HOwn X g (.slice (some ⟨g, 0, none⟩) n n) l' ∧ l'.map Hv.x = l.map Hv.x ∧ Below w.heap.size w X ∧ HOwn2 X g (.slice (some ⟨g, 0, none⟩) n n) l' := by
  obtain ⟨l', e1, e2, hj', ht, hg, hbw, hwg, hnd, cur, hcur, hcs⟩ := h
  have hrow := HRow.of_at (l := l') (Nat.le_refl g) hcur (by rw [hcs, e1]) (by omega) (fun j hj => (hj' j hj).1)
  rw [e1] at hrow
  exact ⟨l', ⟨⟨g, n, by rw [e1], by omega, Nat.le_refl _, hg, fun j hj => (hj' j hj).1⟩, fun j hj => ⟨(hj' j hj).2.1.lower (by omega), (hj' j hj).2.2.lower (by omega)⟩⟩, by rw [e2, hn, List.take_length], hbw, hrow, fun j hj => ⟨(hj' j hj).2.1.lower (by omega), (hj' j hj).2.2.lower (by omega)⟩, hnd⟩

set_option maxHeartbeats 2000000 in
set_option maxRecDepth 10000 in
theorem toHeads_own (v : Value) (l : List Hv) (w : World) (h : Heads w w.heap.size v l) (hl : HdsLim l) :
    Calls Tryz.prog 22 #[v] w fun e w' => ∃ (v' : Value) (l' : List Hv), e = .returned v' ∧ HOwn w' w.heap.size v' l' ∧ l'.map Hv.x = l.map Hv.x ∧ Below w.heap.size w w' ∧ HOwn2 w' w.heap.size v' l' := by
  obtain ⟨w1, hmk, ht1, hb1, hz1, cur1, hcur1, hcs1⟩ := make_heads w l.length hl.1
  obtain ⟨⟨a, cap, rfl, hcap, hc⟩, hin⟩ := h
  have HC : Hid (l.length = 0 ∨ ∃ b off, a = some ⟨b, off, none⟩ ∧ b < w.heap.size ∧ ∀ j (hj : j < l.length), l[j].At w b (off + j * 7)) := hc
  have HI : Hid (∀ j (hj : j < l.length), l[j].x.In l[j].e l[j].p w w.heap.size) := hin
  have HL : Hid (∀ j (hj : j < l.length), l[j].x.Lim) := hl.2
  have H1 : Hid (HdsMid w w.heap.size l.length l 0 w1) := ⟨[], rfl, by simp, fun j hj => absurd hj (by simp), ht1, by omega, hb1, Nat.le_refl _, List.nodup_nil, cur1, hcur1, hcs1⟩
  have hnl := hl.1
  clear hc hin hl ht1 hb1 hz1 hcur1 hcs1
  obtain ⟨n, hn⟩ : ∃ n, n = l.length := ⟨_, rfl⟩
  have HN : Hid (n = l.length) := hn
  rw [← hn] at hmk H1 hcap hnl ⊢
  obtain ⟨g, hg⟩ : ∃ g, g = w.heap.size := ⟨_, rfl⟩
  have HG : Hid (g = w.heap.size) := hg
  rw [← hg] at hmk H1
  clear hn hg hcap
  go_enter Tryz.func22, Tryz.ntmps22
  go_wp2
  go_loopw [4] (fun i wr => ∃ k : Nat, k ≤ n ∧ i = .int .i64 k ∧ HdsMid w g n l k wr) (fun i _ => n - (RowKit.intOf i).toNat)
  case atStart => exact ⟨0, Nat.zero_le _, rfl, H1.out⟩
  case round =>
    clear hmk H1
    obtain ⟨k, hk, rfl, hmid⟩ := hrel
    have HM : Hid (HdsMid w g n l k wr) := hmid
    clear hmid
    by_cases hkn : k < n
    · have hkl : k < l.length := by rw [← HN.out]; exact hkn
      rcases HC.out with h0 | ⟨b, off, rfl, hB, hat⟩
      · omega
      have hbw : Below w.heap.size w wr := by
        obtain ⟨_, _, _, _, _, _, hbw, _⟩ := HM.out
        exact hbw
      have hrange : wr.rangeAt b (off + k * 7) l[k].cells := ((hat k hkl).same (hbw.block b hB)).range
      have E0 : Hid (Calls Tryz.prog 21 #[.agg l[k].cells.toArray] wr fun e w' => HeadOwn wr l[k].x.log l[k].x.size l[k].x.root l[k].x.time l[k].x.k l[k].x.el l[k].x.pl e w') := toHd_any l[k].x _ _ wr ((HI.out k hkl).on hbw) (HL.out k hkl)
      have HP : Hid (∀ (q : Hv) (Y : World), q.x = l[k].x → Below wr.heap.size wr Y → OwnT Y wr.heap.size q.e q.x.el → OwnT Y wr.heap.size q.p q.x.pl → (∀ g, q.e.ownBlock = some g → q.p.ownBlock ≠ some g) → HdsMid w g n l (k + 1) (Y.setCells g (k * 7) q.cells) ∧ Y.there g (k * 7) 7) := fun q Y hx hb h1 h2 hne => HM.out.put hkl hkn hx hb h1 h2 hne
      have hknI : (k : Int) < (n : Int) := by omega
      have hc7 : l[k].cells.length = 7 := rfl
      generalize l[k].cells = cs at *
      generalize l[k].x = x at *
      clear HC HI HL HN HM HG hat hbw
      go_wp2_with (refine wpList_load_mid rfl 26 (.tmp 18) rfl b (off + k * 7) rfl cs _ hrange Tryz.underlying26 rfl (by rw [hc7]; kernel_rfl) ?_)
      refine E0.out.mono ?_
      rintro e w2 ⟨ve, vp, m, rfl, o1, o2, hne0, hm1, _, hb2⟩
      have hne : ∀ g, ve.ownBlock = some g → vp.ownBlock ≠ some g := fun g hg he => by have h1 := hne0 g hg; have h2 := (World.ownsRow.lt o2 g he).1; omega
      clear hne0
      obtain ⟨a1, c1, rfl⟩ := o1.len
      obtain ⟨a2, c2, rfl⟩ := o2.len
      obtain ⟨P1, P2⟩ := HP.out ⟨x, .slice a1 x.el.length c1, .slice a2 x.pl.length c2⟩ w2 rfl hb2 o1 (o2.lower hm1) hne
      have HP1 : Hid (HdsMid w g n l (k + 1) (w2.setCells g (k * 7) [.string x.log, .int .i64 x.size, .string x.root, .int .i64 x.time, .int .i64 x.k, .slice a1 x.el.length c1, .slice a2 x.pl.length c2])) := P1
      clear P1 o1 o2 hm1 hb2 HP E0 hrange hne
      go_wp2_with (refine wpList_store_mid rfl 37 (.tmp 21) (.tmp 20) rfl g (k * 7) #[.string x.log, .int .i64 x.size, .string x.root, .int .i64 x.time, .int .i64 x.k, .slice a1 x.el.length c1, .slice a2 x.pl.length c2] ?_ ?_ P2 (by kernel_rfl) (by simp [Value.oneCell']) ?_; rfl; rfl; clear P2)
      go_roundw
      case rel => exact ⟨k + 1, by omega, by go_num, HP1.out⟩
      case measure => simp [RowKit.intOf]; omega
    · have ek : k = n := by omega
      subst ek
      have HD : Hid (∃ l', HOwn wr w.heap.size (.slice (some ⟨g, 0, none⟩) k k) l' ∧ l'.map Hv.x = l.map Hv.x ∧ Below w.heap.size w wr ∧ HOwn2 wr w.heap.size (.slice (some ⟨g, 0, none⟩) k k) l') := by
        obtain ⟨l', h1, h2, h3, h4⟩ := HM.out.done HN.out (by rw [← HN.out]; exact hnl)
        have hgw := HG.out
        rw [hgw] at h4 ⊢
        rw [hgw] at h1
        exact ⟨l', h1, h2, h3, h4⟩
      clear HM HN HC HI HL HG
      go_wp2
      go_ret
      obtain ⟨l', h1, h2, h3, h4⟩ := HD.out
      exact ⟨_, l', rfl, h1, h2, h3, h4⟩
theorem toHeads_any (v : Value) (l : List Hv) (w : World) (h : Heads w w.heap.size v l) (hl : HdsLim l) :
    Calls Tryz.prog 22 #[v] w fun e w' => ∃ (v' : Value) (l' : List Hv), e = .returned v' ∧ HOwn w' w.heap.size v' l' ∧ l'.map Hv.x = l.map Hv.x ∧ Below w.heap.size w w' :=
  (toHeads_own v l w h hl).mono fun e w' ⟨v', l', he, h1, h2, h3, _⟩ => ⟨v', l', he, h1, h2, h3⟩
end Go.Proofs.YtcenlgfopmahcaaGreatDoor
