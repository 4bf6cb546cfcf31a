/-
  Rows of heads of a call's own, whose texts lie apart from each other; such a row marked.
-/
import Derived.Test.YtcenlgfopmahcaaGreatDoorPkWaiting
import Derived.Test.YtcenlgfopmahcaaGreatDoorPkWatchLaws
import Derived.Test.YtcenlgfopmahcaaGreatDoorPkSigned
import Derived.Test.YtcenlgfopmahcaaGreatDoorPkPoolMap
import Derived.Test.YtcenlgfopmahcaaGreatDoorPkSizes
import Derived.Test.YtcenlgfopmahcaaGreatDoorRows
import Derived.Deep.RegionHeld3
namespace Go.Proofs.YtcenlgfopmahcaaGreatDoor
open Go.RowKit Go.Lib
set_option linter.unusedVariables false
set_option linter.unusedSimpArgs false

def HTxt (X : World) (A : Nat) (q : Hv) : Prop := OwnT X A q.e q.x.el ∧ OwnT X A q.p q.x.pl
theorem HTxt.same {X Y : World} {A : Nat} {q : Hv} (h : HTxt X A q) (hs : ∀ g, g ∈ blk q.e ++ blk q.p → Y.heap[g]? = X.heap[g]?) : HTxt Y A q :=
  ⟨h.1.same fun g hg => hs g (List.mem_append.2 (.inl (mem_blk.2 hg))), h.2.same fun g hg => hs g (List.mem_append.2 (.inr (mem_blk.2 hg)))⟩
theorem HTxt.bd {X : World} {A : Nat} {q : Hv} (h : HTxt X A q) : ∀ g ∈ blk q.e ++ blk q.p, A ≤ g ∧ g < X.heap.size := by
  intro g hg
  rcases List.mem_append.1 hg with h1 | h1
  · exact World.ownsRow.lt h.1 g (mem_blk.1 h1)
  · exact World.ownsRow.lt h.2 g (mem_blk.1 h1)
/-- A row of heads and their texts, all in blocks of its own from A to below C. -/
def HO (A C : Nat) (v : Value) (l : List Hv) (X : World) : Prop :=
  HRow X A v l ∧ (∀ q ∈ l, HTxt X A q) ∧ (blks l).Nodup ∧ (∀ g, v.ownBlock = some g → g < C) ∧ (∀ g ∈ blks l, g < C) ∧ C ≤ X.heap.size
theorem HO.nil (A C : Nat) (X : World) (hC : C ≤ X.heap.size) : HO A C (.slice none 0 0) [] X := ⟨World.ownsRow_nil _ _ _ _, fun q hq => absurd hq (by simp), List.nodup_nil, fun g hg => by simp [Value.ownBlock] at hg, fun g hg => absurd hg (by simp [blks]), hC⟩
theorem HRow.same {X Y : World} {A : Nat} {v : Value} {l : List Hv} (h : HRow X A v l) (hs : ∀ g, v.ownBlock = some g → Y.heap[g]? = X.heap[g]?) : HRow Y A v l := by
  refine ⟨h.1, ?_⟩
  rcases h.2 with hn | ⟨g, cap, cur, rfl, hB, hg, rest⟩
  · exact .inl hn
  · exact .inr ⟨g, cap, cur, rfl, hB, (hs g rfl).trans hg, rest⟩
theorem HO.bd {A C : Nat} {v : Value} {l : List Hv} {X : World} (h : HO A C v l X) : ∀ g ∈ blks l, A ≤ g := by
  intro g hg
  obtain ⟨q, hq, hg2⟩ := List.mem_flatMap.1 hg
  exact ((h.2.1 q hq).bd g hg2).1
theorem HO.loc (A C : Nat) (v : Value) (l : List Hv) : LocalP (HO A C v l) A C := by
  intro X Y h hz hs
  have hb := h.bd
  obtain ⟨h1, h2, h3, h4, h5, h6⟩ := h
  exact ⟨h1.same fun g hg => hs g (World.ownsRow.lt h1 g hg).1 (h4 g hg), fun q hq => (h2 q hq).same fun g hg => hs g (hb g (mem_blks hq hg)) (h5 g (mem_blks hq hg)), h3, h4, h5, Nat.le_trans h6 hz⟩
theorem HO.below {A C : Nat} {v : Value} {l : List Hv} {X Y : World} (h : HO A C v l X) (hb : Below X.heap.size X Y) : HO A C v l Y := LocalP.below (HO.loc A C v l) h hb h.2.2.2.2.2
theorem HO.heads {A C : Nat} {v : Value} {l : List Hv} {X : World} (h : HO A C v l X) : Heads X X.heap.size v l := h.1.heads fun j hj => h.2.1 l[j] (List.getElem_mem hj)

/-- A head marked from k on. -/
def Hv.mark (k : Nat) (q : Hv) : Hv := ⟨{ log := markB k, root := markB (k + 2), size := ((k + 1 : Nat) : Int), time := ((k + 3 : Nat) : Int), k := ((k + 4 : Nat) : Int), el := marks (k + 5) q.x.el.length, pl := marks (k + 5 + q.x.el.length) q.x.pl.length }, q.e, q.p⟩
def Hv.cnt (q : Hv) : Nat := 5 + q.x.el.length + q.x.pl.length
def markHs : Nat → List Hv → List Hv
  | _, [] => []
  | k, q :: r => q.mark k :: markHs (k + q.cnt) r
def cntHs : List Hv → Nat
  | [] => 0
  | q :: r => q.cnt + cntHs r
theorem markHs_len : ∀ (l : List Hv) (k : Nat), (markHs k l).length = l.length
  | [], _ => rfl
  | q :: r, k => by rw [markHs, List.length_cons, List.length_cons, markHs_len r]
theorem markHs_step : ∀ (l : List Hv) (k i : Nat) (hi : i < l.length), markHs k (l.take (i + 1)) = markHs k (l.take i) ++ [l[i].mark (k + cntHs (l.take i))]
  | q :: r, k, 0, hi => by simp [markHs, cntHs]
  | q :: r, k, i + 1, hi => by
    have hi' : i < r.length := by simpa using hi
    simp only [List.take_succ_cons, markHs, cntHs, List.getElem_cons_succ, List.cons_append]
    rw [markHs_step r (k + q.cnt) i hi', Nat.add_assoc]
theorem cntHs_step : ∀ (l : List Hv) (i : Nat) (hi : i < l.length), cntHs (l.take (i + 1)) = cntHs (l.take i) + l[i].cnt
  | q :: r, 0, hi => by simp [cntHs]
  | q :: r, i + 1, hi => by
    have hi' : i < r.length := by simpa using hi
    simp only [List.take_succ_cons, cntHs, List.getElem_cons_succ]
    rw [cntHs_step r i hi', Nat.add_assoc]
theorem cntHs_le : ∀ (l : List Hv) (i : Nat), cntHs (l.take i) ≤ cntHs l
  | [], i => by simp [cntHs]
  | q :: r, 0 => by simp [cntHs]
  | q :: r, i + 1 => by
    have := cntHs_le r i
    simp only [List.take_succ_cons, cntHs]
    omega
theorem markHs_at : ∀ (l : List Hv) (k i : Nat) (hi : i < l.length), (markHs k l)[i]'(by rw [markHs_len]; exact hi) = l[i].mark (k + cntHs (l.take i))
  | q :: r, k, 0, hi => by simp [markHs, cntHs]
  | q :: r, k, i + 1, hi => by
    have hi' : i < r.length := by simpa using hi
    simp only [markHs, List.getElem_cons_succ, List.take_succ_cons, cntHs]
    rw [markHs_at r (k + q.cnt) i hi', Nat.add_assoc]

/-- A cell of one head written. -/
theorem flat_set (pre : List Hv) (post c : List Value) (f : Nat) (u : Value) (hf : f < c.length) : (pre.flatMap Hv.cells ++ (c ++ post)).set (pre.length * 7 + f) u = pre.flatMap Hv.cells ++ (c.set f u ++ post) := by
  rw [List.set_append_right _ _ (by rw [flat_len]; omega), flat_len, Nat.add_sub_cancel_left, List.set_append_left _ _ hf]

theorem WaitMid.ho {w X : World} {l l' : List Hv} {v : Value} (h : WaitMid w l l' l.length v X) : HO w.heap.size X.heap.size v l' X ∧ l'.map Hv.x = l.map Hv.x := by
  have hr := h.row
  have ho := h.2.2.2.1
  have ht : ∀ q ∈ l', HTxt X w.heap.size q := fun q hq => by
    obtain ⟨j, hj, rfl⟩ := List.getElem_of_mem hq
    exact ho j hj
  refine ⟨⟨hr.1, ht, h.2.1.2, fun g hg => (World.ownsRow.lt hr.1 g hg).2, fun g hg => ?_, Nat.le_refl _⟩, hr.2⟩
  obtain ⟨q, hq, hg2⟩ := List.mem_flatMap.1 hg
  exact ((ht q hq).bd g hg2).2
theorem HO.wide {A A' C C' : Nat} {v : Value} {l : List Hv} {X : World} (h : HO A C v l X) (hA : A' ≤ A) (hC : C ≤ C') (hz : C' ≤ X.heap.size) : HO A' C' v l X :=
  ⟨HRow.lower h.1 hA, fun q hq => ⟨(h.2.1 q hq).1.lower hA, (h.2.1 q hq).2.lower hA⟩, h.2.2.1, fun g hg => Nat.lt_of_lt_of_le (h.2.2.2.1 g hg) hC, fun g hg => Nat.lt_of_lt_of_le (h.2.2.2.2.1 g hg) hC, hz⟩
theorem blks_split (pre post : List Hv) (q : Hv) : blks (pre ++ q :: post) = blks pre ++ ((blk q.e ++ blk q.p) ++ blks post) := by simp [blks]
/-- The blocks of one head's two rows, of other heads' and of the row itself are different ones. -/
theorem blks_apart {pre post : List Hv} {q : Hv} (h : (blks (pre ++ q :: post)).Nodup) : (∀ g ∈ blk q.e, g ∉ blk q.p) ∧ ∀ q' ∈ pre ++ post, ∀ g ∈ blk q.e ++ blk q.p, g ∉ blk q'.e ++ blk q'.p := by
  rw [blks_split, List.nodup_append] at h
  obtain ⟨_, h2, h3⟩ := h
  rw [List.nodup_append] at h2
  obtain ⟨h4, _, h5⟩ := h2
  rw [List.nodup_append] at h4
  refine ⟨fun g hg hp => h4.2.2 g hg g hp rfl, fun q' hq' g hg hg' => ?_⟩
  rcases List.mem_append.1 hq' with h6 | h6
  · exact h3 g (mem_blks h6 hg') g (List.mem_append.2 (.inl hg)) rfl
  · exact h5 g hg g (mem_blks h6 hg') rfl
/-- As HO, the cells of one head told outright. -/
def HOc (A C : Nat) (v : Value) (pre : List Hv) (cs : List Value) (q : Hv) (post : List Hv) (X : World) : Prop :=
  X.ownsRow A 37 7 v (pre.length + 1 + post.length) (pre.flatMap Hv.cells ++ (cs ++ post.flatMap Hv.cells)) ∧ (∀ q' ∈ pre ++ q :: post, HTxt X A q') ∧ (blks (pre ++ q :: post)).Nodup ∧ (∀ g, v.ownBlock = some g → g < C) ∧ (∀ g ∈ blks (pre ++ q :: post), g < C) ∧ C ≤ X.heap.size
theorem HO.open {A C : Nat} {v : Value} {pre post : List Hv} {q : Hv} {X : World} (h : HO A C v (pre ++ q :: post) X) : HOc A C v pre q.cells q post X := by
  refine ⟨?_, h.2⟩
  have h1 := h.1
  unfold HRow at h1
  rw [List.flatMap_append, List.flatMap_cons] at h1
  have e : (pre ++ q :: post).length = pre.length + 1 + post.length := by simp; omega
  rw [e] at h1
  exact h1
theorem HOc.shut {A C : Nat} {v : Value} {pre post : List Hv} {q q' : Hv} {X : World} (h : HOc A C v pre q'.cells q post X) (he : q'.e = q.e) (hp : q'.p = q.p) (hel : q'.x.el = q.x.el) (hpl : q'.x.pl = q.x.pl) : HO A C v (pre ++ q' :: post) X := by
  have eb : blks (pre ++ q' :: post) = blks (pre ++ q :: post) := by rw [blks_split, blks_split, he, hp]
  refine ⟨?_, fun y hy => ?_, by rw [eb]; exact h.2.2.1, h.2.2.2.1, by rw [eb]; exact h.2.2.2.2.1, h.2.2.2.2.2⟩
  · unfold HRow
    rw [List.flatMap_append, List.flatMap_cons]
    have e : (pre ++ q' :: post).length = pre.length + 1 + post.length := by simp; omega
    rw [e]
    exact h.1
  · rcases List.mem_append.1 hy with h1 | h1
    · exact h.2.1 y (List.mem_append.2 (.inl h1))
    · rcases List.mem_cons.1 h1 with rfl | h2
      · have := h.2.1 q (List.mem_append.2 (.inr (List.mem_cons_self ..)))
        unfold HTxt at this ⊢
        rw [he, hp, hel, hpl]
        exact this
      · exact h.2.1 y (List.mem_append.2 (.inr (List.mem_cons_of_mem _ h2)))
theorem HOc.block {A C g n cap : Nat} {pre post : List Hv} {cs : List Value} {q : Hv} {X : World} (h : HOc A C (.slice (some ⟨g, 0, none⟩) n cap) pre cs q post X) : A ≤ g ∧ g < C ∧ ∃ cur, X.heap[g]? = some (.cells cur 37 (0, 0)) := by
  refine ⟨(World.ownsRow.lt h.1 g rfl).1, h.2.2.2.1 g rfl, ?_⟩
  rcases h.1.2 with ⟨e, _⟩ | ⟨g', cap', cur, e, _, hg, _⟩
  · cases e
  · simp only [Value.slice.injEq, Option.some.injEq, Addr.mk.injEq] at e
    obtain ⟨⟨rfl, _⟩, _⟩ := e
    exact ⟨cur, hg⟩
/-- A cell of that head is read. -/
theorem HOc.cell {A C g n cap : Nat} {pre post : List Hv} {cs : List Value} {q : Hv} {X : World} (h : HOc A C (.slice (some ⟨g, 0, none⟩) n cap) pre cs q post X) (hn : n = pre.length + 1 + post.length) (f : Nat) (hf : f < cs.length) :
    X.cell? ⟨g, pre.length * 7 + f, none⟩ = some cs[f] ∧ X.frozen? ⟨g, pre.length * 7 + f, none⟩ = false := by
  subst hn
  refine ⟨?_, World.ownsRow.frozenAt h.1 _⟩
  have hl : pre.length * 7 + f < (pre.flatMap Hv.cells ++ (cs ++ post.flatMap Hv.cells)).length := by rw [List.length_append, List.length_append, flat_len]; omega
  have h0 := h.1.cells (g := g) rfl (pre.length * 7 + f) cs[f] (by
    rw [List.getElem?_append_right (by rw [flat_len]; omega), flat_len, Nat.add_sub_cancel_left, List.getElem?_append_left hf]
    exact List.getElem?_eq_getElem hf)
  have hadd : (⟨g, 0, none⟩ : Addr).add (pre.length * 7 + f) = ⟨g, pre.length * 7 + f, none⟩ := by unfold Addr.add; split <;> simp_all
  rw [hadd] at h0
  exact h0
/-- A cell of that head is written. -/
theorem HOc.put {A C g n cap : Nat} {pre post : List Hv} {cs : List Value} {q : Hv} {X : World} (h : HOc A C (.slice (some ⟨g, 0, none⟩) n cap) pre cs q post X) (hn : n = pre.length + 1 + post.length) (f : Nat) (hf : f < cs.length) (u : Value) :
    HOc A C (.slice (some ⟨g, 0, none⟩) n cap) pre (cs.set f u) q post (X.setCell ⟨g, pre.length * 7 + f, none⟩ u) ∧ Inside X (X.setCell ⟨g, pre.length * 7 + f, none⟩ u) A C := by
  obtain ⟨b1, b2, cur, hcur⟩ := h.block
  subst hn
  obtain ⟨h1, h2⟩ := World.ownsRow.stored h.1 (pre.length * 7 + f) u
  rw [flat_set _ _ _ _ _ hf] at h1
  refine ⟨⟨h1, fun y hy => ?_, h.2.2.1, h.2.2.2.1, h.2.2.2.2.1, Nat.le_trans h.2.2.2.2.2 h2.size⟩, inside_row (v := .slice (some ⟨g, 0, none⟩) (pre.length + 1 + post.length) cap) h2 (fun k hk => by
    have : k = g := by simpa [Value.ownBlock] using hk.symm
    omega)⟩
  have ht := h.2.1 y hy
  exact ⟨ht.1.past h2 hcur (by decide), ht.2.past h2 hcur (by decide)⟩
theorem HOc.below {A C : Nat} {v : Value} {pre post : List Hv} {cs : List Value} {q : Hv} {X Y : World} (h : HOc A C v pre cs q post X) (hb : Below X.heap.size X Y) : HOc A C v pre cs q post Y :=
  ⟨ownsRow_below h.1 hb, fun y hy => ⟨(h.2.1 y hy).1.below hb (Nat.le_refl _), (h.2.1 y hy).2.below hb (Nat.le_refl _)⟩, h.2.2.1, h.2.2.2.1, h.2.2.2.2.1, Nat.le_trans h.2.2.2.2.2 hb.size⟩
/-- Another block than the row's, of texts. -/
theorem HO.row_other {A C : Nat} {v u : Value} {l : List Hv} {m : List ByteArray} {X : World} {B : Nat} (h : HO A C v l X) (ho : OwnT X B u m) : ∀ g, v.ownBlock = some g → u.ownBlock ≠ some g := by
  intro g hg e
  rcases h.1.2 with ⟨rfl, _⟩ | ⟨g', cap', cur, rfl, _, hgg, _⟩
  · simp [Value.ownBlock] at hg
  · have : g' = g := by simpa [Value.ownBlock] using hg
    subst this
    exact ho.other hgg (by decide) e.symm
/-- The first row of texts of one head turned. -/
theorem HO.turnE {A C : Nat} {v : Value} {pre post : List Hv} {q : Hv} {X Y : World} {el : List ByteArray} (h : HO A C v (pre ++ q :: post) X) (hg : X.grownBy Y q.e.ownBlock) (ho : OwnT Y A q.e el) :
    HO A C v (pre ++ ⟨{ q.x with el := el }, q.e, q.p⟩ :: post) Y ∧ Inside X Y A C := by
  have hq := h.2.1 q (List.mem_append.2 (.inr (List.mem_cons_self ..)))
  obtain ⟨ap, aq⟩ := blks_apart h.2.2.1
  have keep : ∀ g, g < X.heap.size → q.e.ownBlock ≠ some g → Y.heap[g]? = X.heap[g]? := fun g hl hn => hg.block g hl (fun e => hn e.symm)
  have hin : Inside X Y A C := inside_row hg fun g hgq => ⟨(World.ownsRow.lt hq.1 g hgq).1, h.2.2.2.2.1 g (mem_blks (List.mem_append.2 (.inr (List.mem_cons_self ..))) (List.mem_append.2 (.inl (mem_blk.2 hgq))))⟩
  refine ⟨⟨?_, fun y hy => ?_, ?_, h.2.2.2.1, ?_, Nat.le_trans h.2.2.2.2.2 hg.size⟩, hin⟩
  · have h1 := h.1.same (Y := Y) fun g hgv => keep g (World.ownsRow.lt h.1 g hgv).2 (h.row_other hq.1 g hgv)
    unfold HRow at h1 ⊢
    simpa [Hv.cells] using h1
  · have others : ∀ y ∈ pre ++ post, HTxt Y A y := fun y hy => by
      have hy2 : y ∈ pre ++ q :: post := by
        rcases List.mem_append.1 hy with h1 | h1
        · exact List.mem_append.2 (.inl h1)
        · exact List.mem_append.2 (.inr (List.mem_cons_of_mem _ h1))
      refine (h.2.1 y hy2).same fun g hgy => keep g ((h.2.1 y hy2).bd g hgy).2 fun e => ?_
      exact aq y hy g (List.mem_append.2 (.inl (mem_blk.2 e))) hgy
    rcases List.mem_append.1 hy with h1 | h1
    · exact others y (List.mem_append.2 (.inl h1))
    · rcases List.mem_cons.1 h1 with rfl | h2
      · exact ⟨ho, hq.2.same fun g hgp => keep g (World.ownsRow.lt hq.2 g hgp).2 fun e => ap g (mem_blk.2 e) (mem_blk.2 hgp)⟩
      · exact others y (List.mem_append.2 (.inr h2))
  · have := h.2.2.1
    rw [blks_split] at this ⊢
    exact this
  · have := h.2.2.2.2.1
    rw [blks_split] at this ⊢
    exact this
/-- The second one turned. -/
theorem HO.turnP {A C : Nat} {v : Value} {pre post : List Hv} {q : Hv} {X Y : World} {pl : List ByteArray} (h : HO A C v (pre ++ q :: post) X) (hg : X.grownBy Y q.p.ownBlock) (ho : OwnT Y A q.p pl) :
    HO A C v (pre ++ ⟨{ q.x with pl := pl }, q.e, q.p⟩ :: post) Y ∧ Inside X Y A C := by
  have hq := h.2.1 q (List.mem_append.2 (.inr (List.mem_cons_self ..)))
  obtain ⟨ap, aq⟩ := blks_apart h.2.2.1
  have keep : ∀ g, g < X.heap.size → q.p.ownBlock ≠ some g → Y.heap[g]? = X.heap[g]? := fun g hl hn => hg.block g hl (fun e => hn e.symm)
  have hin : Inside X Y A C := inside_row hg fun g hgq => ⟨(World.ownsRow.lt hq.2 g hgq).1, h.2.2.2.2.1 g (mem_blks (List.mem_append.2 (.inr (List.mem_cons_self ..))) (List.mem_append.2 (.inr (mem_blk.2 hgq))))⟩
  refine ⟨⟨?_, fun y hy => ?_, ?_, h.2.2.2.1, ?_, Nat.le_trans h.2.2.2.2.2 hg.size⟩, hin⟩
  · have h1 := h.1.same (Y := Y) fun g hgv => keep g (World.ownsRow.lt h.1 g hgv).2 (h.row_other hq.2 g hgv)
    unfold HRow at h1 ⊢
    simpa [Hv.cells] using h1
  · have others : ∀ y ∈ pre ++ post, HTxt Y A y := fun y hy => by
      have hy2 : y ∈ pre ++ q :: post := by
        rcases List.mem_append.1 hy with h1 | h1
        · exact List.mem_append.2 (.inl h1)
        · exact List.mem_append.2 (.inr (List.mem_cons_of_mem _ h1))
      refine (h.2.1 y hy2).same fun g hgy => keep g ((h.2.1 y hy2).bd g hgy).2 fun e => ?_
      exact aq y hy g (List.mem_append.2 (.inr (mem_blk.2 e))) hgy
    rcases List.mem_append.1 hy with h1 | h1
    · exact others y (List.mem_append.2 (.inl h1))
    · rcases List.mem_cons.1 h1 with rfl | h2
      · exact ⟨hq.1.same fun g hge => keep g (World.ownsRow.lt hq.1 g hge).2 fun e => ap g (mem_blk.2 hge) (mem_blk.2 e), ho⟩
      · exact others y (List.mem_append.2 (.inr h2))
  · have := h.2.2.1
    rw [blks_split] at this ⊢
    exact this
  · have := h.2.2.2.2.1
    rw [blks_split] at this ⊢
    exact this
end Go.Proofs.YtcenlgfopmahcaaGreatDoor

/-
  A row of heads that a call makes, and turns head by head, beside a struct that it works at.
-/
namespace Go.Proofs.YtcenlgfopmahcaaGreatDoor
open Go.RowKit Go.Lib
set_option linter.unusedVariables false
set_option linter.unusedSimpArgs false

theorem HRow.past {X Y : World} {A b : Nat} {v : Value} {l : List Hv} {cs : Array Value} {T : TypeId} {fz : Nat × Nat} (h : HRow X A v l) (hg : X.grownBy Y (some b)) (hp : X.heap[b]? = some (.cells cs T fz)) (hT : T ≠ 37) : HRow Y A v l := by
  refine ⟨h.1, ?_⟩
  rcases h.2 with hn | ⟨g, cap, cur, rfl, hB, hgg, rest⟩
  · exact .inl hn
  · refine .inr ⟨g, cap, cur, rfl, hB, (hg.block g (Array.getElem?_eq_some_iff.1 hgg).1 fun e => ?_).trans hgg, rest⟩
    rw [Option.some.inj e, hp] at hgg
    injection (Option.some.inj hgg) with e1 e2
    exact hT e2
def putLL : List Value → Nat → List Value → List Value
  | xs, _, [] => xs
  | xs, o, v :: r => putLL (xs.set o v) (o + 1) r
theorem ownsRow_puts {A d n g cap : Nat} {e : TypeId} : ∀ (vs : List Value) (o : Nat) (X : World) (xs : List Value), X.ownsRow A e d (.slice (some ⟨g, 0, none⟩) n cap) n xs → (X.setCells g o vs).ownsRow A e d (.slice (some ⟨g, 0, none⟩) n cap) n (putLL xs o vs)
  | [], o, X, xs, h => h
  | v :: r, o, X, xs, h => by
    rw [World.setCells, putLL]
    exact ownsRow_puts r (o + 1) _ _ (World.ownsRow.stored h o v).1
theorem flat_puts (pre : List Hv) (q0 q : Hv) (post : List Value) : putLL (pre.flatMap Hv.cells ++ (q0.cells ++ post)) (pre.length * 7) q.cells = pre.flatMap Hv.cells ++ (q.cells ++ post) := by
  have hs : ∀ (c : List Value) (f : Nat) (u : Value), f < c.length → (pre.flatMap Hv.cells ++ (c ++ post)).set (pre.length * 7 + f) u = pre.flatMap Hv.cells ++ (c.set f u ++ post) := fun c f u hf => flat_set pre post c f u hf
  generalize pre.flatMap Hv.cells = F at *
  have h0 := fun c u => hs c 0 u
  rw [Nat.add_zero] at h0
  unfold Hv.cells
  rw [putLL, h0 _ _ (by simp), putLL, hs _ 1 _ (by simp), putLL, hs _ 2 _ (by simp), putLL, hs _ 3 _ (by simp), putLL, hs _ 4 _ (by simp), putLL, hs _ 5 _ (by simp), putLL, hs _ 6 _ (by simp), putLL]
  simp only [List.set_cons_zero, List.set_cons_succ]
theorem HRow.puts {X : World} {A g n cap : Nat} {pre post : List Hv} {q0 : Hv} (h : HRow X A (.slice (some ⟨g, 0, none⟩) n cap) (pre ++ q0 :: post)) (hn : n = pre.length + 1 + post.length) (q : Hv) :
    HRow (X.setCells g (pre.length * 7) q.cells) A (.slice (some ⟨g, 0, none⟩) n cap) (pre ++ q :: post) ∧ X.grownBy (X.setCells g (pre.length * 7) q.cells) (some g) := by
  refine ⟨?_, setCells_grown _ _ _ _ _ (rd_refl _ _)⟩
  unfold HRow at h ⊢
  have e0 : (pre ++ q0 :: post).length = n := by rw [hn]; simp; omega
  have e1 : (pre ++ q :: post).length = n := by rw [hn]; simp; omega
  rw [e0, List.flatMap_append, List.flatMap_cons] at h
  rw [e1, List.flatMap_append, List.flatMap_cons]
  have := ownsRow_puts q.cells (pre.length * 7) X _ h
  rw [flat_puts] at this
  exact this
/-- Such a row: the texts of its first heads are the call's own. -/
def PoolK (w : World) (up : Value) (done rest : List Hv) (X : World) : Prop := HRow X w.heap.size up (done ++ rest) ∧ ∀ q ∈ done, HTxt X w.heap.size q
theorem PoolK.below {w X Y : World} {up : Value} {done rest : List Hv} (h : PoolK w up done rest X) (hb : Below X.heap.size X Y) : PoolK w up done rest Y :=
  ⟨HRow.below h.1 hb, fun q hq => ⟨(h.2 q hq).1.below hb (Nat.le_refl _), (h.2 q hq).2.below hb (Nat.le_refl _)⟩⟩
theorem PoolK.past {w X Y : World} {up : Value} {done rest : List Hv} {b : Nat} {cs : Array Value} {T : TypeId} {fz : Nat × Nat} (h : PoolK w up done rest X) (hg : X.grownBy Y (some b)) (hp : X.heap[b]? = some (.cells cs T fz)) (hT : T ≠ 37) (hT2 : T ≠ 9) : PoolK w up done rest Y :=
  ⟨h.1.past hg hp hT, fun q hq => ⟨(h.2 q hq).1.past hg hp hT2, (h.2 q hq).2.past hg hp hT2⟩⟩
theorem HRow.block {X : World} {A g n cap : Nat} {l : List Hv} (h : HRow X A (.slice (some ⟨g, 0, none⟩) n cap) l) : A ≤ g ∧ ∃ cur, X.heap[g]? = some (.cells cur 37 (0, 0)) := by
  refine ⟨(World.ownsRow.lt h g rfl).1, ?_⟩
  rcases h.2 with ⟨e, _⟩ | ⟨g', cap', cur, e, _, hg, _⟩
  · cases e
  · simp only [Value.slice.injEq, Option.some.injEq, Addr.mk.injEq] at e
    obtain ⟨⟨rfl, _⟩, _⟩ := e
    exact ⟨cur, hg⟩
theorem Box.side {w X Y : World} {T T' : TypeId} {cs zs : List Value} {os : List (Value × List ByteArray)} {g : Nat} {cur : Array Value} {fz : Nat × Nat} (h : Box w T cs zs os X) (hg : X.grownBy Y (some g)) (hge : w.heap.size ≤ g) (hp : X.heap[g]? = some (.cells cur T' fz)) (hT : T' ≠ T) (hT2 : T' ≠ 9) : Box w T cs zs os Y := by
  have hne : ∀ {b : Nat} {c : Array Value}, X.heap[b]? = some (.cells c T (0, 0)) → (some b : Option Nat) ≠ some g := fun hb e => by
    rw [Option.some.inj e, hp] at hb
    injection (Option.some.inj hb) with e1 e2
    exact hT e2
  exact ⟨(hg.block _ (by have := h.lt; omega) (hne h.1)).trans h.1, (hg.block _ h.lt (hne h.2.1)).trans h.2.1, below_own h.2.2.1 hg hge, fun p hpp => (h.2.2.2 p hpp).past hg hp hT2⟩
/-- One head more is the call's own. -/
theorem PoolK.put {w X : World} {g n cap : Nat} {done rest : List Hv} {q0 q : Hv} (h : PoolK w (.slice (some ⟨g, 0, none⟩) n cap) done (q0 :: rest) X) (hn : n = done.length + 1 + rest.length) (hq : HTxt X w.heap.size q) : PoolK w (.slice (some ⟨g, 0, none⟩) n cap) (done ++ [q]) rest (X.setCells g (done.length * 7) q.cells) := by
  obtain ⟨h1, h2⟩ := h.1.puts hn q
  obtain ⟨hge, cur, hcur⟩ := h.1.block
  refine ⟨by rw [List.append_assoc, List.singleton_append]; exact h1, fun y hy => ?_⟩
  rcases List.mem_append.1 hy with hy | hy
  · exact ⟨(h.2 y hy).1.past h2 hcur (by decide), (h.2 y hy).2.past h2 hcur (by decide)⟩
  · rw [List.mem_singleton] at hy
    rw [hy]
    exact ⟨hq.1.past h2 hcur (by decide), hq.2.past h2 hcur (by decide)⟩
theorem PoolK.heads {w X : World} {up : Value} {done : List Hv} (h : PoolK w up done [] X) : Heads X X.heap.size up done := by
  have h1 := h.1
  rw [List.append_nil] at h1
  exact h1.heads fun j hj => h.2 _ (List.getElem_mem hj)
/-- The cells of the head that comes next. -/
theorem PoolK.next {w X : World} {g n cap : Nat} {done rest : List Hv} {q0 : Hv} (h : PoolK w (.slice (some ⟨g, 0, none⟩) n cap) done (q0 :: rest) X) (hn : n = done.length + 1 + rest.length) :
    X.rangeAt g (done.length * 7) q0.cells ∧ X.there g (done.length * 7) 7 := by
  have h1 := h.1
  have hlen : (done ++ q0 :: rest).length = n := by rw [hn]; simp; omega
  have hat : (done ++ q0 :: rest)[done.length]'(by simp) = q0 := by simp
  unfold HRow at h1
  rw [hlen] at h1
  have hcell : ∀ i u, q0.cells[i]? = some u → X.cell? ⟨g, done.length * 7 + i, none⟩ = some u := fun i u hu => by
    have h0 := World.ownsRow.cells h1 (g := g) rfl (done.length * 7 + i) u (flat_at (done ++ q0 :: rest) done.length i (by simp) u (by rw [hat]; exact hu))
    have hadd : (⟨g, 0, none⟩ : Addr).add (done.length * 7 + i) = ⟨g, done.length * 7 + i, none⟩ := by unfold Addr.add; split <;> simp_all
    rw [hadd] at h0
    exact h0
  refine ⟨fun i u hu => hcell i u hu, fun j hj => ⟨?_, World.ownsRow.frozenAt h1 _⟩⟩
  rw [hcell j (q0.cells[j]'(by rw [cells_len]; exact hj)) (List.getElem?_eq_getElem _)]
  rfl
/-- An empty row of texts, of heads, made. -/
def emptyT (w : World) : World := w.alloc (.cells #[] 9)
def emptyW (w : World) : World := w.alloc (.cells #[] 37)
theorem hrow_empty (w : World) : HRow (emptyW w) w.heap.size (.slice (some ⟨w.heap.size, 0, none⟩) 0 0) [] :=
  ⟨rfl, .inr ⟨w.heap.size, 0, #[], rfl, Nat.le_refl _, heap_alloc_new w _, Nat.le_refl _, by unfold maxLen; omega, rfl, rfl⟩⟩
theorem HRow.shape {X : World} {A : Nat} {v : Value} {l : List Hv} (h : HRow X A v l) : ∃ a cap, v = .slice a l.length cap ∧ (l.length = 0 ∨ ∃ g, a = some ⟨g, 0, none⟩) := by
  rcases h.2 with ⟨rfl, h0⟩ | ⟨g, cap, cur, rfl, _⟩
  · exact ⟨none, 0, by rw [h0], .inl h0⟩
  · exact ⟨_, cap, rfl, .inr ⟨g, rfl⟩⟩
theorem below_of_row {X Y : World} {B g n cap : Nat} (hg : X.grownBy Y (Value.slice (some ⟨g, 0, none⟩) n cap).ownBlock) (hB : B ≤ g) (hX : B ≤ X.heap.size) : Below B X Y :=
  ⟨hg.os, hg.tape, hg.output, hg.size, fun k hk => hg.block k (by omega) (by simp [Value.ownBlock]; omega)⟩
end Go.Proofs.YtcenlgfopmahcaaGreatDoor

/-
  An operation of a drawn region that comes up alone.
-/
namespace Go.Proofs.YtcenlgfopmahcaaGreatDoor
open Go
set_option linter.unusedVariables false

theorem one_ready {P : Program} {ops : Array Oper} {Q : Exit → Act → World → Prop} {md : Region.Mode} {S : World → Prop} {fuel : Nat} {listed : Array Bool} {a : Act} {w : World} {i : Nat} {o : Oper} (hr : Region.ready md ops listed = [i]) (ho : ops[i]? = some o) (hw : Region.wanted o (yielded ops a.tmps) = true)
    (h : ∀ K' : Act → World → Prop, Shut (∀ a w, S w → (S w → wpAnyH P md ops Q S fuel (listed.setIfInBounds i true) a w) → K' a w) → Oper.wp P o a w K' Q) : wpAnyH P md ops Q S (fuel + 1) listed a w :=
  wpAnyH_ready hr (by simp) (AllReadyH.cons ho (fun K hK => by rw [if_pos hw]; exact h K hK) AllReadyH.nil)
end Go.Proofs.YtcenlgfopmahcaaGreatDoor

/-
  What toWatch answers, outright; what hangs on the heads' own fields alone.
-/
namespace Go.Proofs.YtcenlgfopmahcaaGreatDoor
open Go.RowKit Go.Lib
set_option linter.unusedVariables false
set_option linter.unusedSimpArgs false

theorem poolB_map {lg ky : ByteArray} : ∀ {l l' : List Hv} {last : Int}, l'.map Hv.x = l.map Hv.x → poolB lg ky last l' = poolB lg ky last l
  | [], [], _, _ => rfl
  | [], q :: r, _, h => by simp at h
  | q :: r, [], _, h => by simp at h
  | q :: r, q' :: r', last, h => by
    simp only [List.map_cons, List.cons.injEq] at h
    unfold poolB
    rw [h.1, poolB_map h.2]
theorem Wt.rightB_map {t : Wt} {l l' : List Hv} (h : l'.map Hv.x = l.map Hv.x) : t.rightB l' = t.rightB l := by
  have hl : l'.length = l.length := by have := congrArg List.length h; simpa using this
  unfold Wt.rightB
  rw [poolB_map h, hl]
theorem map_at {l l' : List Hv} (h : l'.map Hv.x = l.map Hv.x) {j : Nat} (hj : j < l'.length) : ∃ hj' : j < l.length, l'[j].x = l[j].x := by
  have hl : l'.length = l.length := by have := congrArg List.length h; simpa using this
  have h1 : (l'.map Hv.x)[j]? = (l.map Hv.x)[j]? := by rw [h]
  have hj' : j < l.length := by omega
  exact ⟨hj', by simpa [hj, hj'] using h1⟩
theorem HdsLim.map {l l' : List Hv} (hl : HdsLim l) (h : l'.map Hv.x = l.map Hv.x) : HdsLim l' := by
  have hn : l'.length = l.length := by have := congrArg List.length h; simpa using this
  refine ⟨by rw [hn]; exact hl.1, fun j hj => ?_⟩
  obtain ⟨hj', e⟩ := map_at h hj
  rw [e]
  exact hl.2 j hj'
theorem HdsNum.map {l l' : List Hv} (hl : HdsNum l) (h : l'.map Hv.x = l.map Hv.x) : HdsNum l' := fun j hj => by
  obtain ⟨hj', e⟩ := map_at h hj
  rw [e]
  exact hl j hj'
/-- What toWatch answers. -/
def ToW (t : Wt) (l : List Hv) (X : World) (e : Ending) (w' : World) : Prop :=
  ∃ (b0 : Option Addr) (d0 : Nat) (b1 : Option Addr) (d1 : Nat) (b2 : Option Addr) (d2 : Nat) (bp : Option Addr) (np dp : Nat) (b3 : Option Addr) (d3 : Nat) (b4 : Option Addr) (d4 : Nat) (b5 : Option Addr) (d5 : Nat) (b6 : Option Addr) (d6 : Nat) (b7 : Option Addr) (d7 : Nat) (l' : List Hv), e = .returned (.agg #[.string t.log, .string t.key, .slice b0 t.en.length d0, .string t.h.log, .int .i64 t.h.size, .string t.h.root, .int .i64 t.h.time, .int .i64 t.h.k, .slice b1 t.h.el.length d1, .slice b2 t.h.pl.length d2, .slice bp np dp, .bool t.found, .string t.a.log, .int .i64 t.a.size, .string t.a.root, .int .i64 t.a.time, .int .i64 t.a.k, .slice b3 t.a.el.length d3, .slice b4 t.a.pl.length d4, .string t.b.log, .int .i64 t.b.size, .string t.b.root, .int .i64 t.b.time, .int .i64 t.b.k, .slice b5 t.b.el.length d5, .slice b6 t.b.pl.length d6, .slice b7 t.fl.length d7]) ∧ (t.In (.slice b0 t.en.length d0) (.slice b1 t.h.el.length d1) (.slice b2 t.h.pl.length d2) (.slice b3 t.a.el.length d3) (.slice b4 t.a.pl.length d4) (.slice b5 t.b.el.length d5) (.slice b6 t.b.pl.length d6) (.slice b7 t.fl.length d7) w' w'.heap.size ∧ Heads w' w'.heap.size (.slice bp np dp) l' ∧ l'.map Hv.x = l.map Hv.x) ∧ Below X.heap.size X w'
/-- The same, from a world on. -/
def ToW2 (t : Wt) (l : List Hv) (X : World) (e : Ending) (w' : World) : Prop := ToW t l X e w'
theorem toW_out (t : Wt) (l : List Hv) (v0 v1 v2 vp v3 v4 v5 v6 v7 : Value) (w : World) (h : t.Arg l v0 v1 v2 vp v3 v4 v5 v6 v7 w) (hf : t.Lens) (hl : HdsLim l) :
    Calls Tryz.prog 6 #[.agg #[.string t.log, .string t.key, v0, .string t.h.log, .int .i64 t.h.size, .string t.h.root, .int .i64 t.h.time, .int .i64 t.h.k, v1, v2, vp, .bool t.found, .string t.a.log, .int .i64 t.a.size, .string t.a.root, .int .i64 t.a.time, .int .i64 t.a.k, v3, v4, .string t.b.log, .int .i64 t.b.size, .string t.b.root, .int .i64 t.b.time, .int .i64 t.b.k, v5, v6, v7]] w fun e w' => ToW t l w e w' := by
  refine (toW_any t l v0 v1 v2 vp v3 v4 v5 v6 v7 w ⟨h.2.2.1.1, h.2.2.2.1.1, h.2.2.2.2.2.1.1, h.2.2.2.2.2.2.1.1, h.2.2.2.2.2.2.2.1⟩ h.2.2.2.2.1.1 hf hl).mono fun e w' hq => ?_
  obtain ⟨u0, u1, u2, up, u3, u4, u5, u6, u7, l', he, hi, hh, hm, hb⟩ := hq
  obtain ⟨b0, d0, rfl, _⟩ := id hi.1
  obtain ⟨b1, d1, b2, d2, rfl, rfl⟩ := hi.2.1.parts
  obtain ⟨b3, d3, b4, d4, rfl, rfl⟩ := hi.2.2.1.parts
  obtain ⟨b5, d5, b6, d6, rfl, rfl⟩ := hi.2.2.2.1.parts
  obtain ⟨b7, d7, rfl, _⟩ := id hi.2.2.2.2
  obtain ⟨⟨bp, dp, rfl, _⟩, _⟩ := id hh
  exact ⟨b0, d0, b1, d1, b2, d2, bp, _, dp, b3, d3, b4, d4, b5, d5, b6, d6, b7, d7, l', he, ⟨hi, hh, hm⟩, hb⟩
end Go.Proofs.YtcenlgfopmahcaaGreatDoor

/-
  The document's copy of a watch.
-/
namespace Go.Proofs.YtcenlgfopmahcaaGreatDoor
open Go.RowKit Go.Lib
set_option linter.unusedVariables false
set_option linter.unusedSimpArgs false

/-- A watch copied: it can be read. -/
def WCp (t : Wt) (l : List Hv) (w : World) (e : Ending) (w' : World) : Prop := ∃ (u0 u1 u2 up u3 u4 u5 u6 u7 : Value) (l' : List Hv), e = .returned (.agg #[.string t.log, .string t.key, u0, .string t.h.log, .int .i64 t.h.size, .string t.h.root, .int .i64 t.h.time, .int .i64 t.h.k, u1, u2, up, .bool t.found, .string t.a.log, .int .i64 t.a.size, .string t.a.root, .int .i64 t.a.time, .int .i64 t.a.k, u3, u4, .string t.b.log, .int .i64 t.b.size, .string t.b.root, .int .i64 t.b.time, .int .i64 t.b.k, u5, u6, u7]) ∧ (OwnT w' w.heap.size u0 t.en ∧ (OwnT w' w.heap.size u1 t.h.el ∧ OwnT w' w.heap.size u2 t.h.pl) ∧ (OwnT w' w.heap.size u3 t.a.el ∧ OwnT w' w.heap.size u4 t.a.pl) ∧ (OwnT w' w.heap.size u5 t.b.el ∧ OwnT w' w.heap.size u6 t.b.pl) ∧ OwnT w' w.heap.size u7 t.fl) ∧ (HRow w' w.heap.size up l' ∧ ∀ q ∈ l', HTxt w' w.heap.size q) ∧ l'.map Hv.x = l.map Hv.x ∧ Below w.heap.size w w'

set_option maxHeartbeats 4000000 in
set_option maxRecDepth 10000 in
theorem specWCopy_any (t : Wt) (l : List Hv) (v0 v1 v2 vp v3 v4 v5 v6 v7 : Value) (w : World) (hi : t.In v0 v1 v2 v3 v4 v5 v6 v7 w w.heap.size) (hh : Heads w w.heap.size vp l) (hf : t.Lens) (hl : HdsLim l) :
    Calls Tryz.prog 18 #[.agg #[.string t.log, .string t.key, v0, .string t.h.log, .int .i64 t.h.size, .string t.h.root, .int .i64 t.h.time, .int .i64 t.h.k, v1, v2, vp, .bool t.found, .string t.a.log, .int .i64 t.a.size, .string t.a.root, .int .i64 t.a.time, .int .i64 t.a.k, v3, v4, .string t.b.log, .int .i64 t.b.size, .string t.b.root, .int .i64 t.b.time, .int .i64 t.b.k, v5, v6, v7]] w (WCp t l w) := by
  obtain ⟨a0, c0, rfl, z0⟩ := id hi.1
  obtain ⟨a1, c1, a2, c2, rfl, rfl⟩ := hi.2.1.parts
  obtain ⟨⟨ap, cp, rfl, hcap, hc⟩, hin⟩ := id hh
  obtain ⟨a3, c3, a4, c4, rfl, rfl⟩ := hi.2.2.1.parts
  obtain ⟨a5, c5, a6, c6, rfl, rfl⟩ := hi.2.2.2.1.parts
  obtain ⟨a7, c7, rfl, z7⟩ := id hi.2.2.2.2
  clear z0 z7 hcap hc hin
  obtain ⟨W, hW⟩ : ∃ W, W = (w.alloc (.cells #[.string t.log, .string t.key, .slice a0 t.en.length c0, .string t.h.log, .int .i64 t.h.size, .string t.h.root, .int .i64 t.h.time, .int .i64 t.h.k, .slice a1 t.h.el.length c1, .slice a2 t.h.pl.length c2, .slice ap l.length cp, .bool t.found, .string t.a.log, .int .i64 t.a.size, .string t.a.root, .int .i64 t.a.time, .int .i64 t.a.k, .slice a3 t.a.el.length c3, .slice a4 t.a.pl.length c4, .string t.b.log, .int .i64 t.b.size, .string t.b.root, .int .i64 t.b.time, .int .i64 t.b.k, .slice a5 t.b.el.length c5, .slice a6 t.b.pl.length c6, .slice a7 t.fl.length c7] 41)).alloc (.cells #[.string ⟨#[]⟩, .string ⟨#[]⟩, .slice none 0 0, .string ⟨#[]⟩, .int .i64 0, .string ⟨#[]⟩, .int .i64 0, .int .i64 0, .slice none 0 0, .slice none 0 0, .slice none 0 0, .bool false, .string ⟨#[]⟩, .int .i64 0, .string ⟨#[]⟩, .int .i64 0, .int .i64 0, .slice none 0 0, .slice none 0 0, .string ⟨#[]⟩, .int .i64 0, .string ⟨#[]⟩, .int .i64 0, .int .i64 0, .slice none 0 0, .slice none 0 0, .slice none 0 0] 41) := ⟨_, rfl⟩
  have hB : Box w 41 [.string t.log, .string t.key, .slice a0 t.en.length c0, .string t.h.log, .int .i64 t.h.size, .string t.h.root, .int .i64 t.h.time, .int .i64 t.h.k, .slice a1 t.h.el.length c1, .slice a2 t.h.pl.length c2, .slice ap l.length cp, .bool t.found, .string t.a.log, .int .i64 t.a.size, .string t.a.root, .int .i64 t.a.time, .int .i64 t.a.k, .slice a3 t.a.el.length c3, .slice a4 t.a.pl.length c4, .string t.b.log, .int .i64 t.b.size, .string t.b.root, .int .i64 t.b.time, .int .i64 t.b.k, .slice a5 t.b.el.length c5, .slice a6 t.b.pl.length c6, .slice a7 t.fl.length c7] [.string ⟨#[]⟩, .string ⟨#[]⟩, .slice none 0 0, .string ⟨#[]⟩, .int .i64 0, .string ⟨#[]⟩, .int .i64 0, .int .i64 0, .slice none 0 0, .slice none 0 0, .slice none 0 0, .bool false, .string ⟨#[]⟩, .int .i64 0, .string ⟨#[]⟩, .int .i64 0, .int .i64 0, .slice none 0 0, .slice none 0 0, .string ⟨#[]⟩, .int .i64 0, .string ⟨#[]⟩, .int .i64 0, .int .i64 0, .slice none 0 0, .slice none 0 0, .slice none 0 0] [] W := by rw [hW]; exact Box.start w _ _ _
  have hzW : W.heap.size = w.heap.size + 1 + 1 := by rw [hW]; simp
  have HI : Hid (∀ X, Below w.heap.size w X → t.In (.slice a0 t.en.length c0) (.slice a1 t.h.el.length c1) (.slice a2 t.h.pl.length c2) (.slice a3 t.a.el.length c3) (.slice a4 t.a.pl.length c4) (.slice a5 t.b.el.length c5) (.slice a6 t.b.pl.length c6) (.slice a7 t.fl.length c7) X X.heap.size) := fun X q => hi.on q
  have HH : Hid (∀ X, Below w.heap.size w X → Heads X X.heap.size (.slice ap l.length cp) l) := fun X q => hh.on q
  have HF : Hid (t.Lens ∧ HdsLim l) := ⟨hf, hl⟩
  have EH : Hid (∀ (x : Hd) (ve vp : Value) X, x.In ve vp X X.heap.size → x.Lim → Calls Tryz.prog 41 #[.agg #[.string x.log, .int .i64 x.size, .string x.root, .int .i64 x.time, .int .i64 x.k, ve, vp]] X (HeadCp x X)) := fun x ve vp X h hl => specHeadCopy_any x ve vp X h hl
  have HW : Hid (W = (w.alloc (.cells #[.string t.log, .string t.key, .slice a0 t.en.length c0, .string t.h.log, .int .i64 t.h.size, .string t.h.root, .int .i64 t.h.time, .int .i64 t.h.k, .slice a1 t.h.el.length c1, .slice a2 t.h.pl.length c2, .slice ap l.length cp, .bool t.found, .string t.a.log, .int .i64 t.a.size, .string t.a.root, .int .i64 t.a.time, .int .i64 t.a.k, .slice a3 t.a.el.length c3, .slice a4 t.a.pl.length c4, .string t.b.log, .int .i64 t.b.size, .string t.b.root, .int .i64 t.b.time, .int .i64 t.b.k, .slice a5 t.b.el.length c5, .slice a6 t.b.pl.length c6, .slice a7 t.fl.length c7] 41)).alloc (.cells #[.string ⟨#[]⟩, .string ⟨#[]⟩, .slice none 0 0, .string ⟨#[]⟩, .int .i64 0, .string ⟨#[]⟩, .int .i64 0, .int .i64 0, .slice none 0 0, .slice none 0 0, .slice none 0 0, .bool false, .string ⟨#[]⟩, .int .i64 0, .string ⟨#[]⟩, .int .i64 0, .int .i64 0, .slice none 0 0, .slice none 0 0, .string ⟨#[]⟩, .int .i64 0, .string ⟨#[]⟩, .int .i64 0, .int .i64 0, .slice none 0 0, .slice none 0 0, .slice none 0 0] 41)) := hW
  have HZ : Hid (W.heap.size = w.heap.size + 1 + 1) := hzW
  have HB : Hid (Box w 41 [.string t.log, .string t.key, .slice a0 t.en.length c0, .string t.h.log, .int .i64 t.h.size, .string t.h.root, .int .i64 t.h.time, .int .i64 t.h.k, .slice a1 t.h.el.length c1, .slice a2 t.h.pl.length c2, .slice ap l.length cp, .bool t.found, .string t.a.log, .int .i64 t.a.size, .string t.a.root, .int .i64 t.a.time, .int .i64 t.a.k, .slice a3 t.a.el.length c3, .slice a4 t.a.pl.length c4, .string t.b.log, .int .i64 t.b.size, .string t.b.root, .int .i64 t.b.time, .int .i64 t.b.k, .slice a5 t.b.el.length c5, .slice a6 t.b.pl.length c6, .slice a7 t.fl.length c7] [.string ⟨#[]⟩, .string ⟨#[]⟩, .slice none 0 0, .string ⟨#[]⟩, .int .i64 0, .string ⟨#[]⟩, .int .i64 0, .int .i64 0, .slice none 0 0, .slice none 0 0, .slice none 0 0, .bool false, .string ⟨#[]⟩, .int .i64 0, .string ⟨#[]⟩, .int .i64 0, .int .i64 0, .slice none 0 0, .slice none 0 0, .string ⟨#[]⟩, .int .i64 0, .string ⟨#[]⟩, .int .i64 0, .int .i64 0, .slice none 0 0, .slice none 0 0, .slice none 0 0] [] W) := hB
  clear hi hh hf hl hW hzW hB
  go_enter Tryz.func18, Tryz.ntmps18
  go_wp2_with (first
    | (rw [← HW.out, ← HZ.out]; obtain ⟨V, hV⟩ : ∃ V, V = W.alloc (.cells #[] 9) := ⟨_, rfl⟩; rw [← hV]; have hal : Below W.heap.size W V := (by rw [hV]; exact (Below.refl _ _).alloc (Nat.le_refl _) _); have HV : Hid (Box w 41 [.string t.log, .string t.key, .slice a0 t.en.length c0, .string t.h.log, .int .i64 t.h.size, .string t.h.root, .int .i64 t.h.time, .int .i64 t.h.k, .slice a1 t.h.el.length c1, .slice a2 t.h.pl.length c2, .slice ap l.length cp, .bool t.found, .string t.a.log, .int .i64 t.a.size, .string t.a.root, .int .i64 t.a.time, .int .i64 t.a.k, .slice a3 t.a.el.length c3, .slice a4 t.a.pl.length c4, .string t.b.log, .int .i64 t.b.size, .string t.b.root, .int .i64 t.b.time, .int .i64 t.b.k, .slice a5 t.b.el.length c5, .slice a6 t.b.pl.length c6, .slice a7 t.fl.length c7] [.string ⟨#[]⟩, .string ⟨#[]⟩, .slice none 0 0, .string ⟨#[]⟩, .int .i64 0, .string ⟨#[]⟩, .int .i64 0, .int .i64 0, .slice none 0 0, .slice none 0 0, .slice none 0 0, .bool false, .string ⟨#[]⟩, .int .i64 0, .string ⟨#[]⟩, .int .i64 0, .int .i64 0, .slice none 0 0, .slice none 0 0, .string ⟨#[]⟩, .int .i64 0, .string ⟨#[]⟩, .int .i64 0, .int .i64 0, .slice none 0 0, .slice none 0 0, .slice none 0 0] [] V ∧ OwnT V W.heap.size (.slice (some ⟨W.heap.size, 0, none⟩) 0 0) [] ∧ Texts V V.heap.size (.slice a0 t.en.length c0) t.en ∧ Below W.heap.size W V) := ⟨HB.out.below hal, (by rw [hV]; exact ownT_empty W _ (Nat.le_refl _)), (HI.out V (HB.out.below hal).2.2.1).1, hal⟩; have x1 : V.cell? ⟨w.heap.size, 2, none⟩ = some (.slice a0 t.en.length c0) := row_here HV.out.1.1 2 _ rfl; clear hal hV)
    | (refine wp_app_texts rfl (.tmp 4) (.tmp 6) rfl W.heap.size (.slice (some ⟨W.heap.size, 0, none⟩) 0 0) (.slice a0 t.en.length c0) [] t.en rfl HV.out.2.1 rfl HV.out.2.2.1 (by simp) (by have := HF.out.1.2.2.1; omega) HV.out.2.2.2.size ?_; intro v1 w1 ho1 hb1; rw [List.nil_append] at ho1; obtain ⟨u0, m0, rfl⟩ := ho1.len; have hb01 := HV.out.2.2.2.trans hb1; have hB1 := (HB.out.below hb01).add (ho1.lower HB.out.2.2.1.size); have H1 : Hid (Box w 41 [.string t.log, .string t.key, .slice a0 t.en.length c0, .string t.h.log, .int .i64 t.h.size, .string t.h.root, .int .i64 t.h.time, .int .i64 t.h.k, .slice a1 t.h.el.length c1, .slice a2 t.h.pl.length c2, .slice ap l.length cp, .bool t.found, .string t.a.log, .int .i64 t.a.size, .string t.a.root, .int .i64 t.a.time, .int .i64 t.a.k, .slice a3 t.a.el.length c3, .slice a4 t.a.pl.length c4, .string t.b.log, .int .i64 t.b.size, .string t.b.root, .int .i64 t.b.time, .int .i64 t.b.k, .slice a5 t.b.el.length c5, .slice a6 t.b.pl.length c6, .slice a7 t.fl.length c7] [.string ⟨#[]⟩, .string ⟨#[]⟩, .slice none 0 0, .string ⟨#[]⟩, .int .i64 0, .string ⟨#[]⟩, .int .i64 0, .int .i64 0, .slice none 0 0, .slice none 0 0, .slice none 0 0, .bool false, .string ⟨#[]⟩, .int .i64 0, .string ⟨#[]⟩, .int .i64 0, .int .i64 0, .slice none 0 0, .slice none 0 0, .string ⟨#[]⟩, .int .i64 0, .string ⟨#[]⟩, .int .i64 0, .int .i64 0, .slice none 0 0, .slice none 0 0, .slice none 0 0] [(.slice u0 t.en.length m0, t.en)] w1) := hB1; have f1 := row_free H1.out.1 2; have g1 : w1.cell? ⟨w.heap.size, 2, none⟩ = some (.slice a0 t.en.length c0) := row_here H1.out.1 2 _ rfl; clear ho1 hb1 hb01 hB1 x1)
    | (rw [show w1.setCell ⟨w.heap.size, 2, none⟩ (.slice u0 t.en.length m0) = Go.Proofs.YtcenlgfopmahcaaGreatDoor.putW w1 w.heap.size 2 (.slice u0 t.en.length m0) from rfl]; obtain ⟨Z, hZ⟩ : ∃ Z, Z = putW w1 w.heap.size 2 (.slice u0 t.en.length m0) := ⟨_, rfl⟩; rw [← hZ]; have hP := H1.out.put (by decide) 2 (.slice u0 t.en.length m0); have H2 : Hid (Box w 41 [.string t.log, .string t.key, .slice u0 t.en.length m0, .string t.h.log, .int .i64 t.h.size, .string t.h.root, .int .i64 t.h.time, .int .i64 t.h.k, .slice a1 t.h.el.length c1, .slice a2 t.h.pl.length c2, .slice ap l.length cp, .bool t.found, .string t.a.log, .int .i64 t.a.size, .string t.a.root, .int .i64 t.a.time, .int .i64 t.a.k, .slice a3 t.a.el.length c3, .slice a4 t.a.pl.length c4, .string t.b.log, .int .i64 t.b.size, .string t.b.root, .int .i64 t.b.time, .int .i64 t.b.k, .slice a5 t.b.el.length c5, .slice a6 t.b.pl.length c6, .slice a7 t.fl.length c7] [.string ⟨#[]⟩, .string ⟨#[]⟩, .slice none 0 0, .string ⟨#[]⟩, .int .i64 0, .string ⟨#[]⟩, .int .i64 0, .int .i64 0, .slice none 0 0, .slice none 0 0, .slice none 0 0, .bool false, .string ⟨#[]⟩, .int .i64 0, .string ⟨#[]⟩, .int .i64 0, .int .i64 0, .slice none 0 0, .slice none 0 0, .string ⟨#[]⟩, .int .i64 0, .string ⟨#[]⟩, .int .i64 0, .int .i64 0, .slice none 0 0, .slice none 0 0, .slice none 0 0] [(.slice u0 t.en.length m0, t.en)] Z) := (by rw [hZ]; exact hP); have X2 : Z.rangeAt w.heap.size 3 [.string t.h.log, .int .i64 t.h.size, .string t.h.root, .int .i64 t.h.time, .int .i64 t.h.k, .slice a1 t.h.el.length c1, .slice a2 t.h.pl.length c2] := World.rangeAt_of_block H2.out.1 3 7; clear hP hZ f1 g1)
    | (refine wpList_load_mid rfl 37 (.tmp 9) rfl w.heap.size 3 rfl [.string t.h.log, .int .i64 t.h.size, .string t.h.root, .int .i64 t.h.time, .int .i64 t.h.k, .slice a1 t.h.el.length c1, .slice a2 t.h.pl.length c2] _ X2 Tryz.underlying37 rfl (by kernel_rfl) ?_; clear X2))
  clear HW HZ HB
  refine (EH.out t.h _ _ Z (HI.out Z H2.out.2.2.1).2.1 HF.out.1.2.2.2.1).mono ?_
  rintro e w2 ⟨ue, up, rfl, o1, o2, hb⟩
  obtain ⟨u1, m1, rfl⟩ := o1.len
  obtain ⟨u2, m2, rfl⟩ := o2.len
  have hB2 := ((H2.out.below hb).add (o1.lower H2.out.2.2.1.size)).add (o2.lower H2.out.2.2.1.size)
  obtain ⟨Z2, hZ2⟩ : ∃ Z, Z = w2.setCells w.heap.size 3 [.string t.h.log, .int .i64 t.h.size, .string t.h.root, .int .i64 t.h.time, .int .i64 t.h.k, .slice u1 t.h.el.length m1, .slice u2 t.h.pl.length m2] := ⟨_, rfl⟩
  have hP := hB2.puts (by decide) 3 [.string t.h.log, .int .i64 t.h.size, .string t.h.root, .int .i64 t.h.time, .int .i64 t.h.k, .slice u1 t.h.el.length m1, .slice u2 t.h.pl.length m2] [.string t.log, .string t.key, .slice u0 t.en.length m0, .string t.h.log, .int .i64 t.h.size, .string t.h.root, .int .i64 t.h.time, .int .i64 t.h.k, .slice u1 t.h.el.length m1, .slice u2 t.h.pl.length m2, .slice ap l.length cp, .bool t.found, .string t.a.log, .int .i64 t.a.size, .string t.a.root, .int .i64 t.a.time, .int .i64 t.a.k, .slice a3 t.a.el.length c3, .slice a4 t.a.pl.length c4, .string t.b.log, .int .i64 t.b.size, .string t.b.root, .int .i64 t.b.time, .int .i64 t.b.k, .slice a5 t.b.el.length c5, .slice a6 t.b.pl.length c6, .slice a7 t.fl.length c7] (by simp only [putL, List.setIfInBounds_toArray, List.set_cons_zero, List.set_cons_succ])
  rw [← hZ2] at hP
  have th : w2.there w.heap.size 3 7 := there_row hB2.1 (by simp)
  have HZ2 : Hid (Z2 = w2.setCells w.heap.size 3 [.string t.h.log, .int .i64 t.h.size, .string t.h.root, .int .i64 t.h.time, .int .i64 t.h.k, .slice u1 t.h.el.length m1, .slice u2 t.h.pl.length m2]) := hZ2
  have H3 : Hid (Box w 41 [.string t.log, .string t.key, .slice u0 t.en.length m0, .string t.h.log, .int .i64 t.h.size, .string t.h.root, .int .i64 t.h.time, .int .i64 t.h.k, .slice u1 t.h.el.length m1, .slice u2 t.h.pl.length m2, .slice ap l.length cp, .bool t.found, .string t.a.log, .int .i64 t.a.size, .string t.a.root, .int .i64 t.a.time, .int .i64 t.a.k, .slice a3 t.a.el.length c3, .slice a4 t.a.pl.length c4, .string t.b.log, .int .i64 t.b.size, .string t.b.root, .int .i64 t.b.time, .int .i64 t.b.k, .slice a5 t.b.el.length c5, .slice a6 t.b.pl.length c6, .slice a7 t.fl.length c7] [.string ⟨#[]⟩, .string ⟨#[]⟩, .slice none 0 0, .string ⟨#[]⟩, .int .i64 0, .string ⟨#[]⟩, .int .i64 0, .int .i64 0, .slice none 0 0, .slice none 0 0, .slice none 0 0, .bool false, .string ⟨#[]⟩, .int .i64 0, .string ⟨#[]⟩, .int .i64 0, .int .i64 0, .slice none 0 0, .slice none 0 0, .string ⟨#[]⟩, .int .i64 0, .string ⟨#[]⟩, .int .i64 0, .int .i64 0, .slice none 0 0, .slice none 0 0, .slice none 0 0] [(.slice u2 t.h.pl.length m2, t.h.pl), (.slice u1 t.h.el.length m1, t.h.el), (.slice u0 t.en.length m0, t.en)] Z2) := hP
  have hll : l.length ≤ 1048576 := HF.out.2.1
  clear o1 o2 hb hB2 hP hZ2 H2
  go_wp2_with (first
    | (refine wpList_store_mid rfl 37 (.tmp 12) (.tmp 11) rfl w.heap.size 3 #[.string t.h.log, .int .i64 t.h.size, .string t.h.root, .int .i64 t.h.time, .int .i64 t.h.k, .slice u1 t.h.el.length m1, .slice u2 t.h.pl.length m2] ?_ ?_ th (by kernel_rfl) (by simp [Value.oneCell']) ?_; rfl; rfl; rw [← HZ2.out]; clear th HZ2)
    | (rw [show Z2.alloc (.cells #[] 37) = Go.Proofs.YtcenlgfopmahcaaGreatDoor.emptyW Z2 from rfl]; obtain ⟨V2, hV2⟩ : ∃ V, V = emptyW Z2 := ⟨_, rfl⟩; rw [← hV2]; have hal : Below Z2.heap.size Z2 V2 := (by rw [hV2]; exact (Below.refl _ _).alloc (Nat.le_refl _) _); have HV2 : Hid (Box w 41 [.string t.log, .string t.key, .slice u0 t.en.length m0, .string t.h.log, .int .i64 t.h.size, .string t.h.root, .int .i64 t.h.time, .int .i64 t.h.k, .slice u1 t.h.el.length m1, .slice u2 t.h.pl.length m2, .slice ap l.length cp, .bool t.found, .string t.a.log, .int .i64 t.a.size, .string t.a.root, .int .i64 t.a.time, .int .i64 t.a.k, .slice a3 t.a.el.length c3, .slice a4 t.a.pl.length c4, .string t.b.log, .int .i64 t.b.size, .string t.b.root, .int .i64 t.b.time, .int .i64 t.b.k, .slice a5 t.b.el.length c5, .slice a6 t.b.pl.length c6, .slice a7 t.fl.length c7] [.string ⟨#[]⟩, .string ⟨#[]⟩, .slice none 0 0, .string ⟨#[]⟩, .int .i64 0, .string ⟨#[]⟩, .int .i64 0, .int .i64 0, .slice none 0 0, .slice none 0 0, .slice none 0 0, .bool false, .string ⟨#[]⟩, .int .i64 0, .string ⟨#[]⟩, .int .i64 0, .int .i64 0, .slice none 0 0, .slice none 0 0, .string ⟨#[]⟩, .int .i64 0, .string ⟨#[]⟩, .int .i64 0, .int .i64 0, .slice none 0 0, .slice none 0 0, .slice none 0 0] [(.slice u2 t.h.pl.length m2, t.h.pl), (.slice u1 t.h.el.length m1, t.h.el), (.slice u0 t.en.length m0, t.en)] V2 ∧ HRow V2 Z2.heap.size (.slice (some ⟨Z2.heap.size, 0, none⟩) 0 0) [] ∧ Heads V2 V2.heap.size (.slice ap l.length cp) l ∧ Below Z2.heap.size Z2 V2) := ⟨H3.out.below hal, (by rw [hV2]; exact hrow_empty Z2), HH.out V2 (H3.out.below hal).2.2.1, hal⟩; have x2 : V2.cell? ⟨w.heap.size, 10, none⟩ = some (.slice ap l.length cp) := row_here HV2.out.1.1 10 _ rfl; clear hal hV2)
    | (refine wp_app_heads rfl (.tmp 13) (.tmp 15) rfl Z2.heap.size (.slice (some ⟨Z2.heap.size, 0, none⟩) 0 0) (.slice ap l.length cp) [] l rfl HV2.out.2.1 rfl HV2.out.2.2.1 (by simp) (by omega) HV2.out.2.2.2.size ?_; intro v3 w3 hr3 hg3; rw [List.nil_append] at hr3; obtain ⟨pa, pc, rfl, hpa⟩ := hr3.shape; have hb3 : Below Z2.heap.size Z2 w3 := HV2.out.2.2.2.trans (below_of_row hg3 (Nat.le_refl _) HV2.out.2.2.2.size); have H4 : Hid (Box w 41 [.string t.log, .string t.key, .slice u0 t.en.length m0, .string t.h.log, .int .i64 t.h.size, .string t.h.root, .int .i64 t.h.time, .int .i64 t.h.k, .slice u1 t.h.el.length m1, .slice u2 t.h.pl.length m2, .slice ap l.length cp, .bool t.found, .string t.a.log, .int .i64 t.a.size, .string t.a.root, .int .i64 t.a.time, .int .i64 t.a.k, .slice a3 t.a.el.length c3, .slice a4 t.a.pl.length c4, .string t.b.log, .int .i64 t.b.size, .string t.b.root, .int .i64 t.b.time, .int .i64 t.b.k, .slice a5 t.b.el.length c5, .slice a6 t.b.pl.length c6, .slice a7 t.fl.length c7] [.string ⟨#[]⟩, .string ⟨#[]⟩, .slice none 0 0, .string ⟨#[]⟩, .int .i64 0, .string ⟨#[]⟩, .int .i64 0, .int .i64 0, .slice none 0 0, .slice none 0 0, .slice none 0 0, .bool false, .string ⟨#[]⟩, .int .i64 0, .string ⟨#[]⟩, .int .i64 0, .int .i64 0, .slice none 0 0, .slice none 0 0, .string ⟨#[]⟩, .int .i64 0, .string ⟨#[]⟩, .int .i64 0, .int .i64 0, .slice none 0 0, .slice none 0 0, .slice none 0 0] [(.slice u2 t.h.pl.length m2, t.h.pl), (.slice u1 t.h.el.length m1, t.h.el), (.slice u0 t.en.length m0, t.en)] w3 ∧ HRow w3 w.heap.size (.slice pa l.length pc) l ∧ (l.length = 0 ∨ ∃ g, pa = some ⟨g, 0, none⟩)) := ⟨H3.out.below hb3, hr3.lower H3.out.2.2.1.size, hpa⟩; have f2 := row_free H4.out.1.1 10; have g2 : w3.cell? ⟨w.heap.size, 10, none⟩ = some (.slice ap l.length cp) := row_here H4.out.1.1 10 _ rfl; clear hr3 hg3 hb3 x2 hpa)
    | (rw [show w3.setCell ⟨w.heap.size, 10, none⟩ (.slice pa l.length pc) = Go.Proofs.YtcenlgfopmahcaaGreatDoor.putW w3 w.heap.size 10 (.slice pa l.length pc) from rfl]; obtain ⟨Z3, hZ3⟩ : ∃ Z, Z = putW w3 w.heap.size 10 (.slice pa l.length pc) := ⟨_, rfl⟩; rw [← hZ3]; have hP := H4.out.1.put (by decide) 10 (.slice pa l.length pc); have hg : w3.grownBy Z3 (some w.heap.size) := (by rw [hZ3]; exact grown_cell (rd_refl _ _) 10 _); have H5 : Hid (Box w 41 [.string t.log, .string t.key, .slice u0 t.en.length m0, .string t.h.log, .int .i64 t.h.size, .string t.h.root, .int .i64 t.h.time, .int .i64 t.h.k, .slice u1 t.h.el.length m1, .slice u2 t.h.pl.length m2, .slice pa l.length pc, .bool t.found, .string t.a.log, .int .i64 t.a.size, .string t.a.root, .int .i64 t.a.time, .int .i64 t.a.k, .slice a3 t.a.el.length c3, .slice a4 t.a.pl.length c4, .string t.b.log, .int .i64 t.b.size, .string t.b.root, .int .i64 t.b.time, .int .i64 t.b.k, .slice a5 t.b.el.length c5, .slice a6 t.b.pl.length c6, .slice a7 t.fl.length c7] [.string ⟨#[]⟩, .string ⟨#[]⟩, .slice none 0 0, .string ⟨#[]⟩, .int .i64 0, .string ⟨#[]⟩, .int .i64 0, .int .i64 0, .slice none 0 0, .slice none 0 0, .slice none 0 0, .bool false, .string ⟨#[]⟩, .int .i64 0, .string ⟨#[]⟩, .int .i64 0, .int .i64 0, .slice none 0 0, .slice none 0 0, .string ⟨#[]⟩, .int .i64 0, .string ⟨#[]⟩, .int .i64 0, .int .i64 0, .slice none 0 0, .slice none 0 0, .slice none 0 0] [(.slice u2 t.h.pl.length m2, t.h.pl), (.slice u1 t.h.el.length m1, t.h.el), (.slice u0 t.en.length m0, t.en)] Z3 ∧ PoolK w (.slice pa l.length pc) [] l Z3 ∧ (l.length = 0 ∨ ∃ g, pa = some ⟨g, 0, none⟩)) := ⟨(by rw [hZ3]; exact hP), ⟨(by rw [List.nil_append]; exact H4.out.2.1.past hg H4.out.1.1 (by decide)), fun q hq => absurd hq (by simp)⟩, H4.out.2.2⟩; clear hP hg hZ3 f2 g2))
  go_loopw [3] (fun i wr => ∃ (k : Nat) (done : List Hv), k ≤ l.length ∧ i = .int .i64 k ∧ done.length = k ∧ done.map Hv.x = (l.take k).map Hv.x ∧ Box w 41 [.string t.log, .string t.key, .slice u0 t.en.length m0, .string t.h.log, .int .i64 t.h.size, .string t.h.root, .int .i64 t.h.time, .int .i64 t.h.k, .slice u1 t.h.el.length m1, .slice u2 t.h.pl.length m2, .slice pa l.length pc, .bool t.found, .string t.a.log, .int .i64 t.a.size, .string t.a.root, .int .i64 t.a.time, .int .i64 t.a.k, .slice a3 t.a.el.length c3, .slice a4 t.a.pl.length c4, .string t.b.log, .int .i64 t.b.size, .string t.b.root, .int .i64 t.b.time, .int .i64 t.b.k, .slice a5 t.b.el.length c5, .slice a6 t.b.pl.length c6, .slice a7 t.fl.length c7] [.string ⟨#[]⟩, .string ⟨#[]⟩, .slice none 0 0, .string ⟨#[]⟩, .int .i64 0, .string ⟨#[]⟩, .int .i64 0, .int .i64 0, .slice none 0 0, .slice none 0 0, .slice none 0 0, .bool false, .string ⟨#[]⟩, .int .i64 0, .string ⟨#[]⟩, .int .i64 0, .int .i64 0, .slice none 0 0, .slice none 0 0, .string ⟨#[]⟩, .int .i64 0, .string ⟨#[]⟩, .int .i64 0, .int .i64 0, .slice none 0 0, .slice none 0 0, .slice none 0 0] [(.slice u2 t.h.pl.length m2, t.h.pl), (.slice u1 t.h.el.length m1, t.h.el), (.slice u0 t.en.length m0, t.en)] wr ∧ PoolK w (.slice pa l.length pc) done (l.drop k) wr) (fun i _ => l.length - (RowKit.intOf i).toNat)
  case atStart => exact ⟨0, [], Nat.zero_le _, rfl, rfl, rfl, H5.out.1, H5.out.2.1⟩
  case round =>
    obtain ⟨k, done, hk, rfl, hdl, hdm, hbx, hpk⟩ := hrel
    by_cases hkn : k < l.length
    · obtain ⟨g, rfl⟩ : ∃ g, pa = some ⟨g, 0, none⟩ := by
        rcases H5.out.2.2 with h0 | h0
        · exact absurd hkn (by rw [h0]; omega)
        · exact h0
      rw [List.drop_eq_getElem_cons hkn] at hpk
      have hnn : l.length = done.length + 1 + (l.drop (k + 1)).length := by rw [hdl, List.length_drop]; omega
      have hnx := hpk.next hnn
      rw [hdl] at hnx
      have HX : Hid (∀ y : Hv, y.x = l[k].x → (done ++ [y]).map Hv.x = (l.take (k + 1)).map Hv.x) := fun y hy => by
        rw [List.map_append, hdm, List.take_succ_eq_append_getElem hkn, List.map_append, List.map_cons, hy]
        rfl
      have E7 : Hid (∀ X, Below w.heap.size w X → Calls Tryz.prog 41 #[.agg #[.string l[k].x.log, .int .i64 l[k].x.size, .string l[k].x.root, .int .i64 l[k].x.time, .int .i64 l[k].x.k, l[k].e, l[k].p]] X (HeadCp l[k].x X)) := fun X q => EH.out l[k].x l[k].e l[k].p X ((HH.out X q).2 k hkn) (HF.out.2.2 k hkn)
      have HBX : Hid (Box w 41 [.string t.log, .string t.key, .slice u0 t.en.length m0, .string t.h.log, .int .i64 t.h.size, .string t.h.root, .int .i64 t.h.time, .int .i64 t.h.k, .slice u1 t.h.el.length m1, .slice u2 t.h.pl.length m2, .slice (some ⟨g, 0, none⟩) l.length pc, .bool t.found, .string t.a.log, .int .i64 t.a.size, .string t.a.root, .int .i64 t.a.time, .int .i64 t.a.k, .slice a3 t.a.el.length c3, .slice a4 t.a.pl.length c4, .string t.b.log, .int .i64 t.b.size, .string t.b.root, .int .i64 t.b.time, .int .i64 t.b.k, .slice a5 t.b.el.length c5, .slice a6 t.b.pl.length c6, .slice a7 t.fl.length c7] [.string ⟨#[]⟩, .string ⟨#[]⟩, .slice none 0 0, .string ⟨#[]⟩, .int .i64 0, .string ⟨#[]⟩, .int .i64 0, .int .i64 0, .slice none 0 0, .slice none 0 0, .slice none 0 0, .bool false, .string ⟨#[]⟩, .int .i64 0, .string ⟨#[]⟩, .int .i64 0, .int .i64 0, .slice none 0 0, .slice none 0 0, .string ⟨#[]⟩, .int .i64 0, .string ⟨#[]⟩, .int .i64 0, .int .i64 0, .slice none 0 0, .slice none 0 0, .slice none 0 0] [(.slice u2 t.h.pl.length m2, t.h.pl), (.slice u1 t.h.el.length m1, t.h.el), (.slice u0 t.en.length m0, t.en)] wr ∧ PoolK w (.slice (some ⟨g, 0, none⟩) l.length pc) done (l[k] :: l.drop (k + 1)) wr ∧ done.length = k ∧ l.length = done.length + 1 + (l.drop (k + 1)).length) := ⟨hbx, hpk, hdl, hnn⟩
      have x10 : wr.cell? ⟨w.heap.size, 10, none⟩ = some (.slice (some ⟨g, 0, none⟩) l.length pc) := row_here hbx.1 10 _ rfl
      have HNX : Hid (wr.drew.rangeAt g (k * 7) l[k].cells) := fun i u hu => hnx.1 i u hu
      generalize l[k] = q at *
      generalize hrest : l.drop (k + 1) = rest at *
      have HRS : Hid (l.drop (k + 1) = rest) := hrest
      have hknI : (k : Int) < (l.length : Int) := by omega
      have HS : Hid (∀ X, Below wr.heap.size wr X → X.cell? ⟨w.heap.size, 10, none⟩ = some (.slice (some ⟨g, 0, none⟩) l.length pc)) := fun X q => row_here (HBX.out.1.below q).1 10 _ rfl
      have hc7 : q.cells.length = 7 := rfl
      clear hbx hpk hdl hdm hnn hnx hrest EH HH HI HF H5
      go_wp2
      refine wp_region_held_drew (S := fun X => X.cell? ⟨w.heap.size, 10, none⟩ = some (.slice (some ⟨g, 0, none⟩) l.length pc)) (by kernel_rfl) ?_ (fun hHeld => ?_)
      · exact HS.out _ (below_drew' (Below.refl _ _))
      refine wpAnyH_take (i := 0) (v := ?_) (by simp only [List.getElem?_toArray, List.getElem?_cons_succ, List.getElem?_cons_zero]; exact Eq.refl _) (by kernel_rfl) (by kernel_rfl) (by kernel_rfl) (by exact fun _ _ _ h => h) (Or.inl ⟨by kernel_rfl, ?_⟩) (by assumption) ?_
      rotate_left
      · (intro w' hSw; clear hSw; go_simp; (try with_reducible rfl))
      (try simp only [Act.put, List.setIfInBounds_toArray, List.set_cons_zero, List.set_cons_succ])
      refine wpAnyH_take (i := 1) (v := ?_) (by simp only [List.getElem?_toArray, List.getElem?_cons_succ, List.getElem?_cons_zero]; exact Eq.refl _) (by kernel_rfl) (by kernel_rfl) (by kernel_rfl) (by exact fun _ _ _ h => h) (Or.inl ⟨by kernel_rfl, ?_⟩) (by assumption) ?_
      rotate_left
      · (intro w' hSw; (try dsimp only at hSw); go_simp; (try with_reducible rfl))
      (try simp only [Act.put, List.setIfInBounds_toArray, List.set_cons_zero, List.set_cons_succ])
      refine wpAnyH_take (i := 2) (v := ?_) (by simp only [List.getElem?_toArray, List.getElem?_cons_succ, List.getElem?_cons_zero]; exact Eq.refl _) (by kernel_rfl) (by kernel_rfl) (by kernel_rfl) (by exact fun _ _ _ h => h) (Or.inl ⟨by kernel_rfl, ?_⟩) (by assumption) ?_
      rotate_left
      · (intro w' hSw; clear hSw; go_simp; (try with_reducible rfl))
      (try simp only [Act.put, List.setIfInBounds_toArray, List.set_cons_zero, List.set_cons_succ])
      refine wpAnyH_take (i := 3) (v := ?_) (by simp only [List.getElem?_toArray, List.getElem?_cons_succ, List.getElem?_cons_zero]; exact Eq.refl _) (by kernel_rfl) (by kernel_rfl) (by kernel_rfl) (by exact fun _ _ _ h => h) (Or.inl ⟨by kernel_rfl, ?_⟩) (by assumption) ?_
      rotate_left
      · (intro w' hSw; clear hSw; go_simp; (try with_reducible rfl))
      (try simp only [Act.put, List.setIfInBounds_toArray, List.set_cons_zero, List.set_cons_succ])
      refine wpAnyH_take (i := 4) (v := ?_) (by simp only [List.getElem?_toArray, List.getElem?_cons_succ, List.getElem?_cons_zero]; exact Eq.refl _) (by kernel_rfl) (by kernel_rfl) (by kernel_rfl) (by exact fun _ _ _ h => h) (Or.inl ⟨by kernel_rfl, ?_⟩) (by assumption) ?_
      rotate_left
      · (intro w' hSw; (try dsimp only at hSw); go_simp; (try with_reducible rfl))
      (try simp only [Act.put, List.setIfInBounds_toArray, List.set_cons_zero, List.set_cons_succ])
      refine wpAnyH_take (i := 5) (v := ?_) (by simp only [List.getElem?_toArray, List.getElem?_cons_succ, List.getElem?_cons_zero]; exact Eq.refl _) (by kernel_rfl) (by kernel_rfl) (by kernel_rfl) (by exact fun _ _ _ h => h) (Or.inl ⟨by kernel_rfl, ?_⟩) (by assumption) ?_
      rotate_left
      · (intro w' hSw; clear hSw; go_simp; (try with_reducible rfl))
      (try simp only [Act.put, List.setIfInBounds_toArray, List.set_cons_zero, List.set_cons_succ])
      refine wpAnyH_take (i := 6) (v := .pointer (some ⟨g, k * 7, none⟩)) (by simp only [List.getElem?_toArray, List.getElem?_cons_succ, List.getElem?_cons_zero]; exact Eq.refl _) (by kernel_rfl) (by kernel_rfl) (by kernel_rfl) (by exact fun _ _ _ h => h) (Or.inl ⟨by kernel_rfl, ?_⟩) (by assumption) ?_
      · (intro w' hSw; clear hSw; go_simp; first | done | (with_reducible rfl) | skip)
      (try simp only [Act.put, List.setIfInBounds_toArray, List.set_cons_zero, List.set_cons_succ])
      refine one_ready (i := 7) (by kernel_rfl) (by simp only [List.getElem?_toArray, List.getElem?_cons_succ, List.getElem?_cons_zero]; exact Eq.refl _) (by kernel_rfl) ?_
      intro K hK
      refine wp_load_mid 37 (.tmp 31) rfl g (k * 7) rfl q.cells _ HNX.out Tryz.underlying37 rfl (by rw [hc7]; kernel_rfl) ?_
      refine hK.out _ _ ?_ (fun hHeld => ?_)
      · exact hHeld
      clear hK K
      (try simp only [Act.put, List.setIfInBounds_toArray, List.set_cons_zero, List.set_cons_succ])
      refine one_ready (i := 8) (by kernel_rfl) (by simp only [List.getElem?_toArray, List.getElem?_cons_succ, List.getElem?_cons_zero]; exact Eq.refl _) (by kernel_rfl) ?_
      intro K hK
      go_simp
      (go_at_call 41; refine (E7.out _ (below_drew' HBX.out.1.2.2.1)).mono ?_; rintro e w4 ⟨ue, up, rfl, o1, o2, hb⟩; obtain ⟨p1, s1, rfl⟩ := o1.len; obtain ⟨p2, s2, rfl⟩ := o2.len; have hbb : Below wr.heap.size wr w4 := below_drew hb; have HW4 : Hid (Below wr.heap.size wr w4 ∧ HTxt w4 w.heap.size ⟨q.x, .slice p1 q.x.el.length s1, .slice p2 q.x.pl.length s2⟩) := ⟨hbb, o1.lower HBX.out.1.2.2.1.size, o2.lower HBX.out.1.2.2.1.size⟩; clear hb o1 o2 hbb)
      go_wp2_with fail
      refine hK.out _ _ ?_ (fun hHeld => ?_)
      · exact HS.out _ HW4.out.1
      clear hK K
      (try simp only [Act.put, List.setIfInBounds_toArray, List.set_cons_zero, List.set_cons_succ])
      refine wpAnyH_take (i := 9) (v := .pointer (some ⟨g, k * 7, none⟩)) (by simp only [List.getElem?_toArray, List.getElem?_cons_succ, List.getElem?_cons_zero]; exact Eq.refl _) (by kernel_rfl) (by kernel_rfl) (by kernel_rfl) (by exact fun _ _ _ h => h) (Or.inl ⟨by kernel_rfl, ?_⟩) (by assumption) ?_
      · (intro w' hSw; clear hSw; go_simp; first | done | (with_reducible rfl) | skip)
      (try simp only [Act.put, List.setIfInBounds_toArray, List.set_cons_zero, List.set_cons_succ])
      have hBX4 := HBX.out.1.below HW4.out.1
      have hPK4 := HBX.out.2.1.below HW4.out.1
      have th4 := (hPK4.next HBX.out.2.2.2).2
      have hPK5 := hPK4.put HBX.out.2.2.2 HW4.out.2
      obtain ⟨hg1, hg2⟩ := hPK4.1.puts HBX.out.2.2.2 ⟨q.x, .slice p1 q.x.el.length s1, .slice p2 q.x.pl.length s2⟩
      obtain ⟨hge, cur, hcur⟩ := hPK4.1.block
      have hBX5 := hBX4.side hg2 hge hcur (by decide) (by decide)
      rw [HBX.out.2.2.1] at th4 hPK5 hBX5
      have HZ4 : Hid (Box w 41 [.string t.log, .string t.key, .slice u0 t.en.length m0, .string t.h.log, .int .i64 t.h.size, .string t.h.root, .int .i64 t.h.time, .int .i64 t.h.k, .slice u1 t.h.el.length m1, .slice u2 t.h.pl.length m2, .slice (some ⟨g, 0, none⟩) l.length pc, .bool t.found, .string t.a.log, .int .i64 t.a.size, .string t.a.root, .int .i64 t.a.time, .int .i64 t.a.k, .slice a3 t.a.el.length c3, .slice a4 t.a.pl.length c4, .string t.b.log, .int .i64 t.b.size, .string t.b.root, .int .i64 t.b.time, .int .i64 t.b.k, .slice a5 t.b.el.length c5, .slice a6 t.b.pl.length c6, .slice a7 t.fl.length c7] [.string ⟨#[]⟩, .string ⟨#[]⟩, .slice none 0 0, .string ⟨#[]⟩, .int .i64 0, .string ⟨#[]⟩, .int .i64 0, .int .i64 0, .slice none 0 0, .slice none 0 0, .slice none 0 0, .bool false, .string ⟨#[]⟩, .int .i64 0, .string ⟨#[]⟩, .int .i64 0, .int .i64 0, .slice none 0 0, .slice none 0 0, .string ⟨#[]⟩, .int .i64 0, .string ⟨#[]⟩, .int .i64 0, .int .i64 0, .slice none 0 0, .slice none 0 0, .slice none 0 0] [(.slice u2 t.h.pl.length m2, t.h.pl), (.slice u1 t.h.el.length m1, t.h.el), (.slice u0 t.en.length m0, t.en)] (w4.setCells g (k * 7) [.string q.x.log, .int .i64 q.x.size, .string q.x.root, .int .i64 q.x.time, .int .i64 q.x.k, .slice p1 q.x.el.length s1, .slice p2 q.x.pl.length s2]) ∧ PoolK w (.slice (some ⟨g, 0, none⟩) l.length pc) (done ++ [⟨q.x, .slice p1 q.x.el.length s1, .slice p2 q.x.pl.length s2⟩]) rest (w4.setCells g (k * 7) [.string q.x.log, .int .i64 q.x.size, .string q.x.root, .int .i64 q.x.time, .int .i64 q.x.k, .slice p1 q.x.el.length s1, .slice p2 q.x.pl.length s2])) := ⟨hBX5, hPK5⟩
      clear hBX4 hPK4 hPK5 hg1 hg2 hge hcur hBX5
      refine one_ready (i := 10) (by kernel_rfl) (by simp only [List.getElem?_toArray, List.getElem?_cons_succ, List.getElem?_cons_zero]; exact Eq.refl _) (by kernel_rfl) ?_
      intro K hK
      refine wp_store_mid 37 (.tmp 34) (.tmp 33) rfl g (k * 7) #[.string q.x.log, .int .i64 q.x.size, .string q.x.root, .int .i64 q.x.time, .int .i64 q.x.k, .slice p1 q.x.el.length s1, .slice p2 q.x.pl.length s2] ?_ ?_ th4 (by kernel_rfl) (by simp [Value.oneCell']) ?_
      · rfl
      · rfl
      clear th4
      refine hK.out _ _ ?_ (fun hHeld => ?_)
      · exact row_here HZ4.out.1.1 10 _ rfl
      clear hK K
      (try simp only [Act.put, List.setIfInBounds_toArray, List.set_cons_zero, List.set_cons_succ])
      refine wpAnyH_done (by kernel_rfl) ?_ _
      go_simp
      go_wp2
      go_roundw
      case rel => exact ⟨k + 1, done ++ [⟨q.x, .slice p1 q.x.el.length s1, .slice p2 q.x.pl.length s2⟩], by omega, by go_num, by rw [List.length_append, HBX.out.2.2.1]; rfl, HX.out _ rfl, HZ4.out.1, by rw [HRS.out]; exact HZ4.out.2⟩
      case measure => simp [RowKit.intOf]; omega
    · have ek : k = l.length := by omega
      have htk : l.take k = l := List.take_of_length_le (by omega)
      rw [List.drop_eq_nil_of_le (by omega)] at hpk
      rw [htk] at hdm
      have H6 : Hid (Box w 41 [.string t.log, .string t.key, .slice u0 t.en.length m0, .string t.h.log, .int .i64 t.h.size, .string t.h.root, .int .i64 t.h.time, .int .i64 t.h.k, .slice u1 t.h.el.length m1, .slice u2 t.h.pl.length m2, .slice pa l.length pc, .bool t.found, .string t.a.log, .int .i64 t.a.size, .string t.a.root, .int .i64 t.a.time, .int .i64 t.a.k, .slice a3 t.a.el.length c3, .slice a4 t.a.pl.length c4, .string t.b.log, .int .i64 t.b.size, .string t.b.root, .int .i64 t.b.time, .int .i64 t.b.k, .slice a5 t.b.el.length c5, .slice a6 t.b.pl.length c6, .slice a7 t.fl.length c7] [.string ⟨#[]⟩, .string ⟨#[]⟩, .slice none 0 0, .string ⟨#[]⟩, .int .i64 0, .string ⟨#[]⟩, .int .i64 0, .int .i64 0, .slice none 0 0, .slice none 0 0, .slice none 0 0, .bool false, .string ⟨#[]⟩, .int .i64 0, .string ⟨#[]⟩, .int .i64 0, .int .i64 0, .slice none 0 0, .slice none 0 0, .string ⟨#[]⟩, .int .i64 0, .string ⟨#[]⟩, .int .i64 0, .int .i64 0, .slice none 0 0, .slice none 0 0, .slice none 0 0] [(.slice u2 t.h.pl.length m2, t.h.pl), (.slice u1 t.h.el.length m1, t.h.el), (.slice u0 t.en.length m0, t.en)] wr ∧ PoolK w (.slice pa l.length pc) done [] wr ∧ done.map Hv.x = l.map Hv.x) := ⟨hbx, hpk, hdm⟩
      have hknI : ¬ (k : Int) < (l.length : Int) := by omega
      have x10 : wr.cell? ⟨w.heap.size, 10, none⟩ = some (.slice pa l.length pc) := row_here hbx.1 10 _ rfl
      have X8 : wr.rangeAt w.heap.size 12 [.string t.a.log, .int .i64 t.a.size, .string t.a.root, .int .i64 t.a.time, .int .i64 t.a.k, .slice a3 t.a.el.length c3, .slice a4 t.a.pl.length c4] := World.rangeAt_of_block hbx.1 12 7
      clear hbx hpk hdm htk H5 ek
      go_wp2_with (first | (refine wpList_load_mid rfl 37 (.tmp 36) rfl w.heap.size 12 rfl [.string t.a.log, .int .i64 t.a.size, .string t.a.root, .int .i64 t.a.time, .int .i64 t.a.k, .slice a3 t.a.el.length c3, .slice a4 t.a.pl.length c4] _ X8 Tryz.underlying37 rfl (by kernel_rfl) ?_))
      clear X8 x10
      refine (EH.out t.a _ _ wr (HI.out wr H6.out.1.2.2.1).2.2.1 HF.out.1.2.2.2.2.1).mono ?_
      rintro e w5 ⟨ue, up, rfl, o1, o2, hb⟩
      obtain ⟨u3, m3, rfl⟩ := o1.len
      obtain ⟨u4, m4, rfl⟩ := o2.len
      have hB5 := ((H6.out.1.below hb).add (o1.lower H6.out.1.2.2.1.size)).add (o2.lower H6.out.1.2.2.1.size)
      obtain ⟨Z5, hZ5⟩ : ∃ Z, Z = w5.setCells w.heap.size 12 [.string t.a.log, .int .i64 t.a.size, .string t.a.root, .int .i64 t.a.time, .int .i64 t.a.k, .slice u3 t.a.el.length m3, .slice u4 t.a.pl.length m4] := ⟨_, rfl⟩
      have hP := hB5.puts (by decide) 12 [.string t.a.log, .int .i64 t.a.size, .string t.a.root, .int .i64 t.a.time, .int .i64 t.a.k, .slice u3 t.a.el.length m3, .slice u4 t.a.pl.length m4] [.string t.log, .string t.key, .slice u0 t.en.length m0, .string t.h.log, .int .i64 t.h.size, .string t.h.root, .int .i64 t.h.time, .int .i64 t.h.k, .slice u1 t.h.el.length m1, .slice u2 t.h.pl.length m2, .slice pa l.length pc, .bool t.found, .string t.a.log, .int .i64 t.a.size, .string t.a.root, .int .i64 t.a.time, .int .i64 t.a.k, .slice u3 t.a.el.length m3, .slice u4 t.a.pl.length m4, .string t.b.log, .int .i64 t.b.size, .string t.b.root, .int .i64 t.b.time, .int .i64 t.b.k, .slice a5 t.b.el.length c5, .slice a6 t.b.pl.length c6, .slice a7 t.fl.length c7] (by simp only [putL, List.setIfInBounds_toArray, List.set_cons_zero, List.set_cons_succ])
      have hpk := (H6.out.2.1.below hb).past (setCells_grown w.heap.size [.string t.a.log, .int .i64 t.a.size, .string t.a.root, .int .i64 t.a.time, .int .i64 t.a.k, .slice u3 t.a.el.length m3, .slice u4 t.a.pl.length m4] 12 w5 w5 (rd_refl _ _)) hB5.1 (by decide) (by decide)
      rw [← hZ5] at hP hpk
      have th : w5.there w.heap.size 12 7 := there_row hB5.1 (by simp)
      have HZ5 : Hid (Z5 = w5.setCells w.heap.size 12 [.string t.a.log, .int .i64 t.a.size, .string t.a.root, .int .i64 t.a.time, .int .i64 t.a.k, .slice u3 t.a.el.length m3, .slice u4 t.a.pl.length m4]) := hZ5
      have H7 : Hid (Box w 41 [.string t.log, .string t.key, .slice u0 t.en.length m0, .string t.h.log, .int .i64 t.h.size, .string t.h.root, .int .i64 t.h.time, .int .i64 t.h.k, .slice u1 t.h.el.length m1, .slice u2 t.h.pl.length m2, .slice pa l.length pc, .bool t.found, .string t.a.log, .int .i64 t.a.size, .string t.a.root, .int .i64 t.a.time, .int .i64 t.a.k, .slice u3 t.a.el.length m3, .slice u4 t.a.pl.length m4, .string t.b.log, .int .i64 t.b.size, .string t.b.root, .int .i64 t.b.time, .int .i64 t.b.k, .slice a5 t.b.el.length c5, .slice a6 t.b.pl.length c6, .slice a7 t.fl.length c7] [.string ⟨#[]⟩, .string ⟨#[]⟩, .slice none 0 0, .string ⟨#[]⟩, .int .i64 0, .string ⟨#[]⟩, .int .i64 0, .int .i64 0, .slice none 0 0, .slice none 0 0, .slice none 0 0, .bool false, .string ⟨#[]⟩, .int .i64 0, .string ⟨#[]⟩, .int .i64 0, .int .i64 0, .slice none 0 0, .slice none 0 0, .string ⟨#[]⟩, .int .i64 0, .string ⟨#[]⟩, .int .i64 0, .int .i64 0, .slice none 0 0, .slice none 0 0, .slice none 0 0] [(.slice u4 t.a.pl.length m4, t.a.pl), (.slice u3 t.a.el.length m3, t.a.el), (.slice u2 t.h.pl.length m2, t.h.pl), (.slice u1 t.h.el.length m1, t.h.el), (.slice u0 t.en.length m0, t.en)] Z5 ∧ PoolK w (.slice pa l.length pc) done [] Z5 ∧ done.map Hv.x = l.map Hv.x) := ⟨hP, hpk, H6.out.2.2⟩
      have X9 : Z5.rangeAt w.heap.size 19 [.string t.b.log, .int .i64 t.b.size, .string t.b.root, .int .i64 t.b.time, .int .i64 t.b.k, .slice a5 t.b.el.length c5, .slice a6 t.b.pl.length c6] := World.rangeAt_of_block hP.1 19 7
      clear o1 o2 hb hB5 hP hpk hZ5 H6
      go_wp2_with (first
        | (refine wpList_store_mid rfl 37 (.tmp 40) (.tmp 38) rfl w.heap.size 12 #[.string t.a.log, .int .i64 t.a.size, .string t.a.root, .int .i64 t.a.time, .int .i64 t.a.k, .slice u3 t.a.el.length m3, .slice u4 t.a.pl.length m4] ?_ ?_ th (by kernel_rfl) (by simp [Value.oneCell']) ?_; rfl; rfl; rw [← HZ5.out]; clear th HZ5)
        | (refine wpList_load_mid rfl 37 (.tmp 42) rfl w.heap.size 19 rfl [.string t.b.log, .int .i64 t.b.size, .string t.b.root, .int .i64 t.b.time, .int .i64 t.b.k, .slice a5 t.b.el.length c5, .slice a6 t.b.pl.length c6] _ X9 Tryz.underlying37 rfl (by kernel_rfl) ?_; clear X9))
      refine (EH.out t.b _ _ Z5 (HI.out Z5 H7.out.1.2.2.1).2.2.2.1 HF.out.1.2.2.2.2.2.1).mono ?_
      rintro e w6 ⟨ue, up, rfl, o1, o2, hb⟩
      obtain ⟨u5, m5, rfl⟩ := o1.len
      obtain ⟨u6, m6, rfl⟩ := o2.len
      have hB6 := ((H7.out.1.below hb).add (o1.lower H7.out.1.2.2.1.size)).add (o2.lower H7.out.1.2.2.1.size)
      obtain ⟨Z6, hZ6⟩ : ∃ Z, Z = w6.setCells w.heap.size 19 [.string t.b.log, .int .i64 t.b.size, .string t.b.root, .int .i64 t.b.time, .int .i64 t.b.k, .slice u5 t.b.el.length m5, .slice u6 t.b.pl.length m6] := ⟨_, rfl⟩
      have hP := hB6.puts (by decide) 19 [.string t.b.log, .int .i64 t.b.size, .string t.b.root, .int .i64 t.b.time, .int .i64 t.b.k, .slice u5 t.b.el.length m5, .slice u6 t.b.pl.length m6] [.string t.log, .string t.key, .slice u0 t.en.length m0, .string t.h.log, .int .i64 t.h.size, .string t.h.root, .int .i64 t.h.time, .int .i64 t.h.k, .slice u1 t.h.el.length m1, .slice u2 t.h.pl.length m2, .slice pa l.length pc, .bool t.found, .string t.a.log, .int .i64 t.a.size, .string t.a.root, .int .i64 t.a.time, .int .i64 t.a.k, .slice u3 t.a.el.length m3, .slice u4 t.a.pl.length m4, .string t.b.log, .int .i64 t.b.size, .string t.b.root, .int .i64 t.b.time, .int .i64 t.b.k, .slice u5 t.b.el.length m5, .slice u6 t.b.pl.length m6, .slice a7 t.fl.length c7] (by simp only [putL, List.setIfInBounds_toArray, List.set_cons_zero, List.set_cons_succ])
      have hpk := (H7.out.2.1.below hb).past (setCells_grown w.heap.size [.string t.b.log, .int .i64 t.b.size, .string t.b.root, .int .i64 t.b.time, .int .i64 t.b.k, .slice u5 t.b.el.length m5, .slice u6 t.b.pl.length m6] 19 w6 w6 (rd_refl _ _)) hB6.1 (by decide) (by decide)
      rw [← hZ6] at hP hpk
      have th : w6.there w.heap.size 19 7 := there_row hB6.1 (by simp)
      have HZ6 : Hid (Z6 = w6.setCells w.heap.size 19 [.string t.b.log, .int .i64 t.b.size, .string t.b.root, .int .i64 t.b.time, .int .i64 t.b.k, .slice u5 t.b.el.length m5, .slice u6 t.b.pl.length m6]) := hZ6
      have H8 : Hid (Box w 41 [.string t.log, .string t.key, .slice u0 t.en.length m0, .string t.h.log, .int .i64 t.h.size, .string t.h.root, .int .i64 t.h.time, .int .i64 t.h.k, .slice u1 t.h.el.length m1, .slice u2 t.h.pl.length m2, .slice pa l.length pc, .bool t.found, .string t.a.log, .int .i64 t.a.size, .string t.a.root, .int .i64 t.a.time, .int .i64 t.a.k, .slice u3 t.a.el.length m3, .slice u4 t.a.pl.length m4, .string t.b.log, .int .i64 t.b.size, .string t.b.root, .int .i64 t.b.time, .int .i64 t.b.k, .slice u5 t.b.el.length m5, .slice u6 t.b.pl.length m6, .slice a7 t.fl.length c7] [.string ⟨#[]⟩, .string ⟨#[]⟩, .slice none 0 0, .string ⟨#[]⟩, .int .i64 0, .string ⟨#[]⟩, .int .i64 0, .int .i64 0, .slice none 0 0, .slice none 0 0, .slice none 0 0, .bool false, .string ⟨#[]⟩, .int .i64 0, .string ⟨#[]⟩, .int .i64 0, .int .i64 0, .slice none 0 0, .slice none 0 0, .string ⟨#[]⟩, .int .i64 0, .string ⟨#[]⟩, .int .i64 0, .int .i64 0, .slice none 0 0, .slice none 0 0, .slice none 0 0] [(.slice u6 t.b.pl.length m6, t.b.pl), (.slice u5 t.b.el.length m5, t.b.el), (.slice u4 t.a.pl.length m4, t.a.pl), (.slice u3 t.a.el.length m3, t.a.el), (.slice u2 t.h.pl.length m2, t.h.pl), (.slice u1 t.h.el.length m1, t.h.el), (.slice u0 t.en.length m0, t.en)] Z6 ∧ PoolK w (.slice pa l.length pc) done [] Z6 ∧ done.map Hv.x = l.map Hv.x) := ⟨hP, hpk, H7.out.2.2⟩
      clear o1 o2 hb hB6 hP hpk hZ6 H7 EH
      go_wp2_with (first
        | (refine wpList_store_mid rfl 37 (.tmp 46) (.tmp 44) rfl w.heap.size 19 #[.string t.b.log, .int .i64 t.b.size, .string t.b.root, .int .i64 t.b.time, .int .i64 t.b.k, .slice u5 t.b.el.length m5, .slice u6 t.b.pl.length m6] ?_ ?_ th (by kernel_rfl) (by simp [Value.oneCell']) ?_; rfl; rfl; rw [← HZ6.out]; clear th HZ6)
        | (rw [show Z6.alloc (.cells #[] 9) = Go.Proofs.YtcenlgfopmahcaaGreatDoor.emptyT Z6 from rfl]; obtain ⟨V6, hV6⟩ : ∃ V, V = emptyT Z6 := ⟨_, rfl⟩; rw [← hV6]; have hal : Below Z6.heap.size Z6 V6 := (by rw [hV6]; exact (Below.refl _ _).alloc (Nat.le_refl _) _); have HV6 : Hid (Box w 41 [.string t.log, .string t.key, .slice u0 t.en.length m0, .string t.h.log, .int .i64 t.h.size, .string t.h.root, .int .i64 t.h.time, .int .i64 t.h.k, .slice u1 t.h.el.length m1, .slice u2 t.h.pl.length m2, .slice pa l.length pc, .bool t.found, .string t.a.log, .int .i64 t.a.size, .string t.a.root, .int .i64 t.a.time, .int .i64 t.a.k, .slice u3 t.a.el.length m3, .slice u4 t.a.pl.length m4, .string t.b.log, .int .i64 t.b.size, .string t.b.root, .int .i64 t.b.time, .int .i64 t.b.k, .slice u5 t.b.el.length m5, .slice u6 t.b.pl.length m6, .slice a7 t.fl.length c7] [.string ⟨#[]⟩, .string ⟨#[]⟩, .slice none 0 0, .string ⟨#[]⟩, .int .i64 0, .string ⟨#[]⟩, .int .i64 0, .int .i64 0, .slice none 0 0, .slice none 0 0, .slice none 0 0, .bool false, .string ⟨#[]⟩, .int .i64 0, .string ⟨#[]⟩, .int .i64 0, .int .i64 0, .slice none 0 0, .slice none 0 0, .string ⟨#[]⟩, .int .i64 0, .string ⟨#[]⟩, .int .i64 0, .int .i64 0, .slice none 0 0, .slice none 0 0, .slice none 0 0] [(.slice u6 t.b.pl.length m6, t.b.pl), (.slice u5 t.b.el.length m5, t.b.el), (.slice u4 t.a.pl.length m4, t.a.pl), (.slice u3 t.a.el.length m3, t.a.el), (.slice u2 t.h.pl.length m2, t.h.pl), (.slice u1 t.h.el.length m1, t.h.el), (.slice u0 t.en.length m0, t.en)] V6 ∧ OwnT V6 Z6.heap.size (.slice (some ⟨Z6.heap.size, 0, none⟩) 0 0) [] ∧ Texts V6 V6.heap.size (.slice a7 t.fl.length c7) t.fl ∧ Below Z6.heap.size Z6 V6) := ⟨H8.out.1.below hal, (by rw [hV6]; exact ownT_empty Z6 _ (Nat.le_refl _)), (HI.out V6 (H8.out.1.below hal).2.2.1).2.2.2.2, hal⟩; have x26 : V6.cell? ⟨w.heap.size, 26, none⟩ = some (.slice a7 t.fl.length c7) := row_here HV6.out.1.1 26 _ rfl; clear hal hV6)
        | (refine wp_app_texts rfl (.tmp 47) (.tmp 50) rfl Z6.heap.size (.slice (some ⟨Z6.heap.size, 0, none⟩) 0 0) (.slice a7 t.fl.length c7) [] t.fl rfl HV6.out.2.1 rfl HV6.out.2.2.1 (by simp) (by have := HF.out.1.2.2.2.2.2.2; omega) HV6.out.2.2.2.size ?_; intro v7 w7 ho7 hb7; rw [List.nil_append] at ho7; obtain ⟨u7, m7, rfl⟩ := ho7.len; have hb67 := HV6.out.2.2.2.trans hb7; have hB7 := (H8.out.1.below hb67).add (ho7.lower H8.out.1.2.2.1.size); have hpk := H8.out.2.1.below hb67; have H9 : Hid (Box w 41 [.string t.log, .string t.key, .slice u0 t.en.length m0, .string t.h.log, .int .i64 t.h.size, .string t.h.root, .int .i64 t.h.time, .int .i64 t.h.k, .slice u1 t.h.el.length m1, .slice u2 t.h.pl.length m2, .slice pa l.length pc, .bool t.found, .string t.a.log, .int .i64 t.a.size, .string t.a.root, .int .i64 t.a.time, .int .i64 t.a.k, .slice u3 t.a.el.length m3, .slice u4 t.a.pl.length m4, .string t.b.log, .int .i64 t.b.size, .string t.b.root, .int .i64 t.b.time, .int .i64 t.b.k, .slice u5 t.b.el.length m5, .slice u6 t.b.pl.length m6, .slice a7 t.fl.length c7] [.string ⟨#[]⟩, .string ⟨#[]⟩, .slice none 0 0, .string ⟨#[]⟩, .int .i64 0, .string ⟨#[]⟩, .int .i64 0, .int .i64 0, .slice none 0 0, .slice none 0 0, .slice none 0 0, .bool false, .string ⟨#[]⟩, .int .i64 0, .string ⟨#[]⟩, .int .i64 0, .int .i64 0, .slice none 0 0, .slice none 0 0, .string ⟨#[]⟩, .int .i64 0, .string ⟨#[]⟩, .int .i64 0, .int .i64 0, .slice none 0 0, .slice none 0 0, .slice none 0 0] [(.slice u7 t.fl.length m7, t.fl), (.slice u6 t.b.pl.length m6, t.b.pl), (.slice u5 t.b.el.length m5, t.b.el), (.slice u4 t.a.pl.length m4, t.a.pl), (.slice u3 t.a.el.length m3, t.a.el), (.slice u2 t.h.pl.length m2, t.h.pl), (.slice u1 t.h.el.length m1, t.h.el), (.slice u0 t.en.length m0, t.en)] w7 ∧ PoolK w (.slice pa l.length pc) done [] w7 ∧ done.map Hv.x = l.map Hv.x) := ⟨hB7, hpk, H8.out.2.2⟩; have f7 := row_free H9.out.1.1 26; have g7 : w7.cell? ⟨w.heap.size, 26, none⟩ = some (.slice a7 t.fl.length c7) := row_here H9.out.1.1 26 _ rfl; clear ho7 hb7 hb67 hB7 hpk x26)
        | (rw [show w7.setCell ⟨w.heap.size, 26, none⟩ (.slice u7 t.fl.length m7) = Go.Proofs.YtcenlgfopmahcaaGreatDoor.putW w7 w.heap.size 26 (.slice u7 t.fl.length m7) from rfl]; obtain ⟨Z7, hZ7⟩ : ∃ Z, Z = putW w7 w.heap.size 26 (.slice u7 t.fl.length m7) := ⟨_, rfl⟩; rw [← hZ7]; have hP := H9.out.1.put (by decide) 26 (.slice u7 t.fl.length m7); have hpk := H9.out.2.1.past (grown_cell (rd_refl w7 (some w.heap.size)) 26 (.slice u7 t.fl.length m7)) H9.out.1.1 (by decide) (by decide); have H10 : Hid (Box w 41 [.string t.log, .string t.key, .slice u0 t.en.length m0, .string t.h.log, .int .i64 t.h.size, .string t.h.root, .int .i64 t.h.time, .int .i64 t.h.k, .slice u1 t.h.el.length m1, .slice u2 t.h.pl.length m2, .slice pa l.length pc, .bool t.found, .string t.a.log, .int .i64 t.a.size, .string t.a.root, .int .i64 t.a.time, .int .i64 t.a.k, .slice u3 t.a.el.length m3, .slice u4 t.a.pl.length m4, .string t.b.log, .int .i64 t.b.size, .string t.b.root, .int .i64 t.b.time, .int .i64 t.b.k, .slice u5 t.b.el.length m5, .slice u6 t.b.pl.length m6, .slice u7 t.fl.length m7] [.string ⟨#[]⟩, .string ⟨#[]⟩, .slice none 0 0, .string ⟨#[]⟩, .int .i64 0, .string ⟨#[]⟩, .int .i64 0, .int .i64 0, .slice none 0 0, .slice none 0 0, .slice none 0 0, .bool false, .string ⟨#[]⟩, .int .i64 0, .string ⟨#[]⟩, .int .i64 0, .int .i64 0, .slice none 0 0, .slice none 0 0, .string ⟨#[]⟩, .int .i64 0, .string ⟨#[]⟩, .int .i64 0, .int .i64 0, .slice none 0 0, .slice none 0 0, .slice none 0 0] [(.slice u7 t.fl.length m7, t.fl), (.slice u6 t.b.pl.length m6, t.b.pl), (.slice u5 t.b.el.length m5, t.b.el), (.slice u4 t.a.pl.length m4, t.a.pl), (.slice u3 t.a.el.length m3, t.a.el), (.slice u2 t.h.pl.length m2, t.h.pl), (.slice u1 t.h.el.length m1, t.h.el), (.slice u0 t.en.length m0, t.en)] Z7 ∧ PoolK w (.slice pa l.length pc) done [] Z7 ∧ done.map Hv.x = l.map Hv.x) := (by rw [hZ7]; exact ⟨hP, hpk, H9.out.2.2⟩); have r0 := H10.out.1.1; have r1 := H10.out.1.2.1; clear hP hpk hZ7 f7 g7)
        | (refine wpList_load_row rfl 41 (.tmp 1) rfl w.heap.size rfl _ _ _ _ r0 Tryz.underlying41 rfl (by kernel_rfl) ?_)
        | (refine wpList_store_row rfl 41 (.tmp 2) (.tmp 54) rfl (w.heap.size + 1) #[.string t.log, .string t.key, .slice u0 t.en.length m0, .string t.h.log, .int .i64 t.h.size, .string t.h.root, .int .i64 t.h.time, .int .i64 t.h.k, .slice u1 t.h.el.length m1, .slice u2 t.h.pl.length m2, .slice pa l.length pc, .bool t.found, .string t.a.log, .int .i64 t.a.size, .string t.a.root, .int .i64 t.a.time, .int .i64 t.a.k, .slice u3 t.a.el.length m3, .slice u4 t.a.pl.length m4, .string t.b.log, .int .i64 t.b.size, .string t.b.root, .int .i64 t.b.time, .int .i64 t.b.k, .slice u5 t.b.el.length m5, .slice u6 t.b.pl.length m6, .slice u7 t.fl.length m7] rfl rfl _ _ r1 (by kernel_rfl) rfl (by simp [Value.oneCell']) ?_))
      obtain ⟨hbx, hpk, hdm⟩ := H10.out
      have hgr := setRow_grown Z7 (w.heap.size + 1) #[.string t.log, .string t.key, .slice u0 t.en.length m0, .string t.h.log, .int .i64 t.h.size, .string t.h.root, .int .i64 t.h.time, .int .i64 t.h.k, .slice u1 t.h.el.length m1, .slice u2 t.h.pl.length m2, .slice pa l.length pc, .bool t.found, .string t.a.log, .int .i64 t.a.size, .string t.a.root, .int .i64 t.a.time, .int .i64 t.a.k, .slice u3 t.a.el.length m3, .slice u4 t.a.pl.length m4, .string t.b.log, .int .i64 t.b.size, .string t.b.root, .int .i64 t.b.time, .int .i64 t.b.k, .slice u5 t.b.el.length m5, .slice u6 t.b.pl.length m6, .slice u7 t.fl.length m7]
      have hbF : Below w.heap.size w (Z7.setRow (w.heap.size + 1) #[.string t.log, .string t.key, .slice u0 t.en.length m0, .string t.h.log, .int .i64 t.h.size, .string t.h.root, .int .i64 t.h.time, .int .i64 t.h.k, .slice u1 t.h.el.length m1, .slice u2 t.h.pl.length m2, .slice pa l.length pc, .bool t.found, .string t.a.log, .int .i64 t.a.size, .string t.a.root, .int .i64 t.a.time, .int .i64 t.a.k, .slice u3 t.a.el.length m3, .slice u4 t.a.pl.length m4, .string t.b.log, .int .i64 t.b.size, .string t.b.root, .int .i64 t.b.time, .int .i64 t.b.k, .slice u5 t.b.el.length m5, .slice u6 t.b.pl.length m6, .slice u7 t.fl.length m7]) := below_setRow hbx.2.2.1 (by omega) _
      have hpk2 := hpk.past hgr r1 (by decide) (by decide)
      have ho : ∀ p ∈ [(.slice u7 t.fl.length m7, t.fl), (.slice u6 t.b.pl.length m6, t.b.pl), (.slice u5 t.b.el.length m5, t.b.el), (.slice u4 t.a.pl.length m4, t.a.pl), (.slice u3 t.a.el.length m3, t.a.el), (.slice u2 t.h.pl.length m2, t.h.pl), (.slice u1 t.h.el.length m1, t.h.el), (.slice u0 t.en.length m0, t.en)], OwnT (Z7.setRow (w.heap.size + 1) #[.string t.log, .string t.key, .slice u0 t.en.length m0, .string t.h.log, .int .i64 t.h.size, .string t.h.root, .int .i64 t.h.time, .int .i64 t.h.k, .slice u1 t.h.el.length m1, .slice u2 t.h.pl.length m2, .slice pa l.length pc, .bool t.found, .string t.a.log, .int .i64 t.a.size, .string t.a.root, .int .i64 t.a.time, .int .i64 t.a.k, .slice u3 t.a.el.length m3, .slice u4 t.a.pl.length m4, .string t.b.log, .int .i64 t.b.size, .string t.b.root, .int .i64 t.b.time, .int .i64 t.b.k, .slice u5 t.b.el.length m5, .slice u6 t.b.pl.length m6, .slice u7 t.fl.length m7]) w.heap.size p.1 p.2 := fun p hp => (hbx.2.2.2 p hp).past hgr r1 (by decide)
      simp only [List.forall_mem_cons] at ho
      obtain ⟨t7, t6, t5, t4, t3, t2, t1, t0, _⟩ := ho
      refine bodyPost_ret (v := _) (results_cell_row rfl _ _ (w.heap.size + 1) _ _ _ _ rfl (setRow_heap _ _ _ _ _ _ r1) Tryz.underlying41 rfl (by kernel_rfl)) rfl ⟨_, _, _, _, _, _, _, _, _, done, rfl, ⟨t0, ⟨t1, t2⟩, ⟨t3, t4⟩, ⟨t5, t6⟩, t7⟩, ⟨by have := hpk2.1; rw [List.append_nil] at this; exact this, hpk2.2⟩, hdm, hbF⟩
end Go.Proofs.YtcenlgfopmahcaaGreatDoor

/-
  Rows of heads and of texts, beside each other, as one of them grows.
-/
namespace Go.Proofs.YtcenlgfopmahcaaGreatDoor
open Go.RowKit Go.Lib
set_option linter.unusedVariables false
set_option linter.unusedSimpArgs false

theorem HRow.typed {X : World} {A : Nat} {v : Value} {l : List Hv} (h : HRow X A v l) {g : Nat} (hg : v.ownBlock = some g) : A ≤ g ∧ ∃ cur, X.heap[g]? = some (.cells cur 37 (0, 0)) := by
  refine ⟨(World.ownsRow.lt h g hg).1, ?_⟩
  rcases h.2 with ⟨rfl, _⟩ | ⟨g', cap', cur, rfl, _, hgg, _⟩
  · simp [Value.ownBlock] at hg
  · have : g' = g := by simpa [Value.ownBlock] using hg
    subst this
    exact ⟨cur, hgg⟩
/-- A row of texts while a row of heads grows. -/
theorem OwnT.rowpast {X Y : World} {A B : Nat} {u v : Value} {m : List ByteArray} {l : List Hv} (h : OwnT X B u m) (hr : HRow X A v l) (hg : X.grownBy Y v.ownBlock) : OwnT Y B u m := by
  cases hv : v.ownBlock with
  | none => rw [hv] at hg; exact h.below ⟨hg.os, hg.tape, hg.output, hg.size, fun k hk => hg.block k hk (by simp)⟩ (Nat.le_refl _)
  | some g =>
    rw [hv] at hg
    obtain ⟨_, cur, hcur⟩ := hr.typed hv
    exact h.past hg hcur (by decide)
theorem HRow.growBelow {w X Y : World} {A B : Nat} {v : Value} {l : List Hv} (hr : HRow X A v l) (hg : X.grownBy Y v.ownBlock) (hb : Below B w X) (hA : B ≤ A) (hB : B ≤ w.heap.size) : Below B w Y :=
  hb.trans ⟨hg.os, hg.tape, hg.output, hg.size, fun k hk => hg.block k (by have := hb.size; omega) (fun e => by have := (World.ownsRow.lt hr k e.symm).1; omega)⟩
theorem HRow.wide {X Y : World} {A b : Nat} {v : Value} {l : List Hv} (h : HRow X A v l) (hg : X.grownBy Y (some b)) (hb : b < A) : HRow Y A v l :=
  h.same fun g hgv => hg.block g (World.ownsRow.lt h g hgv).2 (by have := (World.ownsRow.lt h g hgv).1; simp; omega)
theorem HRow.headsIn {X : World} {A : Nat} {v : Value} {l : List Hv} (h : HRow X A v l) (ho : ∀ j (hj : j < l.length), l[j].x.In l[j].e l[j].p X X.heap.size) : Heads X X.heap.size v l := by
  refine ⟨?_, ho⟩
  have hc := fun g => World.ownsRow.cells (g := g) h
  rcases h.2 with ⟨rfl, h0⟩ | ⟨g, cap, cur, rfl, hB, hg, hnc, _⟩
  · exact ⟨none, 0, by rw [h0], by omega, .inl h0⟩
  · refine ⟨_, cap, rfl, hnc, .inr ⟨g, 0, rfl, (Array.getElem?_eq_some_iff.1 hg).1, fun j hj i v hv => ?_⟩⟩
    have h1 := hc g rfl (j * 7 + i) v (flat_at l j i hj v hv)
    have hadd : (⟨g, 0, none⟩ : Addr).add (j * 7 + i) = ⟨g, j * 7 + i, none⟩ := by unfold Addr.add; split <;> simp_all
    rw [hadd] at h1
    rw [Nat.zero_add]
    exact h1
theorem HRow.headsOf {X : World} {A B : Nat} {v : Value} {l : List Hv} (h : HRow X A v l) (ho : ∀ q ∈ l, HTxt X B q) : Heads X X.heap.size v l :=
  h.headsIn fun j hj => ⟨(ho _ (List.getElem_mem hj)).1.texts, (ho _ (List.getElem_mem hj)).2.texts⟩
end Go.Proofs.YtcenlgfopmahcaaGreatDoor

/-
  The size that a watcher wants next: the least that waits.
-/
namespace Go.Proofs.YtcenlgfopmahcaaGreatDoor
open Go.RowKit Go.Lib Go.Maps Go.Sort
set_option linter.unusedVariables false
set_option linter.unusedSimpArgs false

/-- What a watcher wants. -/
def wantZ : List Hv → Int
  | [] => 0
  | q :: _ => q.x.size
end Go.Proofs.YtcenlgfopmahcaaGreatDoor

/-
  A row of heads marked, and held to its marks.
-/
namespace Go.Proofs.YtcenlgfopmahcaaGreatDoor
open Go.RowKit Go.Lib
set_option linter.unusedVariables false
set_option linter.unusedSimpArgs false

theorem HO.slice {A C : Nat} {v : Value} {l : List Hv} {X : World} (h : HO A C v l X) : ∃ a cap, v = .slice a l.length cap ∧ (l.length = 0 ∨ ∃ g, a = some ⟨g, 0, none⟩) := by
  rcases h.1.2 with ⟨rfl, h0⟩ | ⟨g, cap, cur, rfl, _⟩
  · exact ⟨none, 0, by rw [h0], .inl h0⟩
  · exact ⟨_, cap, rfl, .inr ⟨g, rfl⟩⟩
theorem mark_last {l : List Hv} {k j : Nat} (hj : j < l.length) : (markHs k (l.take j) ++ [l[j].mark (k + cntHs (l.take j))]) = markHs k (l.take (j + 1)) := (markHs_step l k j hj).symm

set_option maxHeartbeats 4000000 in
set_option maxRecDepth 10000 in
theorem markHeads_any (v : Value) (l : List Hv) (k A C : Nat) (w : World) (h : HO A C v l w) (hk0 : 1 ≤ k) (hk1 : k + cntHs l ≤ 90000000000000) (hl : l.length ≤ 2000000) (hlim : ∀ q ∈ l, q.x.el.length ≤ 2000000 ∧ q.x.pl.length ≤ 2000000) :
    Calls Tryz.prog 11 #[v, .int .i64 k] w fun e w' => e = .returned (.int .i64 ((k + cntHs l : Nat) : Int)) ∧ HO A C v (markHs k l) w' ∧ Inside w w' A C := by
  obtain ⟨a, cap, rfl, hv⟩ := h.slice
  obtain ⟨n, hn⟩ : ∃ n, n = l.length := ⟨_, rfl⟩
  have HN : Hid (n = l.length ∧ n ≤ 2000000) := ⟨hn, by omega⟩
  have HV : Hid (n = 0 ∨ ∃ g, a = some ⟨g, 0, none⟩) := by rw [hn]; exact hv
  rw [← hn] at h ⊢
  have ET : Hid (∀ (z : Int) (m : Nat) X, z = (m : Int) → 1 ≤ m → m ≤ 1000000000000000 → Calls Tryz.prog 33 #[.int .i64 z] X fun e w' => e = .returned (.string (markB m)) ∧ Below X.heap.size X w') := fun z m X hz h0 h1 => by subst hz; exact markText_any m X h0 h1
  have EM : Hid (∀ (u : Value) (m : List ByteArray) (z : Int) (i : Nat) X, OwnT X A u m → z = (i : Int) → 1 ≤ i → i ≤ 100000000000000 → m.length ≤ 100000000 → Calls Tryz.prog 30 #[u, .int .i64 z] X fun e w' => e = .returned (.int .i64 ((i + m.length : Nat) : Int)) ∧ OwnT w' A u (marks i m.length) ∧ X.grownBy w' u.ownBlock) := fun u m z i X ho hz h0 h1 hm => by subst hz; exact mark_any u m i X A ho h0 h1 hm
  have H0 : Hid (HO A C (.slice a n cap) l w) := h
  have HLM : Hid (∀ q ∈ l, q.x.el.length ≤ 2000000 ∧ q.x.pl.length ≤ 2000000) := hlim
  have HK : Hid (k + cntHs l ≤ 90000000000000 ∧ 1 ≤ k) := ⟨hk1, hk0⟩
  clear h hv hn hl hk1 hk0 hlim
  go_enter Tryz.func11, Tryz.ntmps11
  go_wp2
  go_loopw [1, 5] (fun x i wr => ∃ (j m : Nat), j ≤ n ∧ x = .int .i64 (m : Int) ∧ i = .int .i64 j ∧ m = k + cntHs (l.take j) ∧ HO A C (.slice a n cap) (markHs k (l.take j) ++ l.drop j) wr ∧ Inside w wr A C) (fun _ i _ => n - (RowKit.intOf i).toNat)
  case atStart => exact ⟨0, k, Nat.zero_le _, rfl, rfl, by simp [cntHs], by simpa [markHs] using H0.out, Inside.refl _ _ _⟩
  case round =>
    clear H0
    obtain ⟨j, m, hj, rfl, rfl, hm, ho, hi⟩ := hrel
    by_cases hjn : j < n
    · have hjl : j < l.length := by have := HN.out.1; omega
      rcases HV.out with h0 | ⟨g, rfl⟩
      · omega
      rw [List.drop_eq_getElem_cons hjl] at ho
      have hcnt := cntHs_step l j hjl
      have hcl := cntHs_le l (j + 1)
      have hlast := mark_last (k := k) hjl
      rw [← hm] at hlast
      have hpl : (markHs k (l.take j)).length = j := by rw [markHs_len, List.length_take]; omega
      have HNN : Hid (n = j + 1 + (l.drop (j + 1)).length) := by have := HN.out.1; show _ = _; rw [List.length_drop]; omega
      have HM : Hid (1 ≤ m ∧ m + l[j].cnt ≤ 90000000000000 ∧ m + l[j].cnt = k + cntHs (l.take (j + 1))) := by have := HK.out; exact ⟨by omega, by omega, by omega⟩
      have HQL : Hid (l[j].x.el.length ≤ 2000000 ∧ l[j].x.pl.length ≤ 2000000) := HLM.out _ (List.getElem_mem hjl)
      generalize l[j] = q at *
      generalize hpre : markHs k (l.take j) = pre at *
      generalize hpost : l.drop (j + 1) = post at *
      have HPO : Hid (l.drop (j + 1) = post) := hpost
      have HPL : Hid (pre.length = j) := hpl
      have HL : Hid (pre ++ [q.mark m] = markHs k (l.take (j + 1))) := hlast
      have H1 : Hid (HOc A C (.slice (some ⟨g, 0, none⟩) n cap) pre [.string q.x.log, .int .i64 q.x.size, .string q.x.root, .int .i64 q.x.time, .int .i64 q.x.k, q.e, q.p] q post wr) := ho.open
      have HI1 : Hid (Inside w wr A C) := hi
      have hjnI : (j : Int) < (n : Int) := by omega
      have hm0 : m ≤ 90000000000000 := by have := HM.out; omega
      have hjj : j ≤ 2000000 := by have := HN.out.2; omega
      clear ho hi hm hcnt hcl hlast hpl hpre hpost hjl HV
      go_wp2_with fail
      refine (ET.out _ m _ rfl HM.out.1 (by omega)).mono ?_
      rintro e w1 ⟨rfl, hb⟩
      have H2 : Hid (HOc A C (.slice (some ⟨g, 0, none⟩) n cap) pre [.string q.x.log, .int .i64 q.x.size, .string q.x.root, .int .i64 q.x.time, .int .i64 q.x.k, q.e, q.p] q post w1 ∧ Inside w w1 A C) := ⟨H1.out.below hb, HI1.out.trans (Inside.of_below hb)⟩
      clear hb H1 HI1
      have hnn : n = pre.length + 1 + post.length := by rw [HPL.out]; exact HNN.out
      have c0 := H2.out.1.cell hnn 0 (by simp)
      have p0 := H2.out.1.put hnn 0 (by simp) (.string (markB m))
      have c1 := p0.1.cell hnn 1 (by simp)
      have p1 := p0.1.put hnn 1 (by simp) (.int .i64 ((m : Int) + 1))
      rw [HPL.out] at c0 p0 c1 p1
      simp only [List.getElem_cons_zero, List.getElem_cons_succ, List.set_cons_zero, List.set_cons_succ, Nat.add_zero] at c0 p0 c1 p1
      obtain ⟨x0, f0⟩ := c0
      obtain ⟨x1, f1⟩ := c1
      obtain ⟨W3, hW3⟩ : ∃ W, W = (w1.setCell ⟨g, j * 7, none⟩ (.string (markB m))).setCell ⟨g, j * 7 + 1, none⟩ (.int .i64 ((m : Int) + 1)) := ⟨_, rfl⟩
      have H3 : Hid (HOc A C (.slice (some ⟨g, 0, none⟩) n cap) pre [.string (markB m), .int .i64 ((m : Int) + 1), .string q.x.root, .int .i64 q.x.time, .int .i64 q.x.k, q.e, q.p] q post W3 ∧ Inside w W3 A C) := by rw [hW3]; exact ⟨p1.1, (H2.out.2.trans p0.2).trans p1.2⟩
      have HW3 : Hid (W3 = (w1.setCell ⟨g, j * 7, none⟩ (.string (markB m))).setCell ⟨g, j * 7 + 1, none⟩ (.int .i64 ((m : Int) + 1))) := hW3
      clear p0 p1 H2 hW3 hnn
      go_wp2_with fail
      rw [← HW3.out]
      clear HW3 x0 f0 x1 f1
      refine (ET.out _ (m + 2) _ (by omega) (by omega) (by omega)).mono ?_
      rintro e w2 ⟨rfl, hb⟩
      have H4 : Hid (HOc A C (.slice (some ⟨g, 0, none⟩) n cap) pre [.string (markB m), .int .i64 ((m : Int) + 1), .string q.x.root, .int .i64 q.x.time, .int .i64 q.x.k, q.e, q.p] q post w2 ∧ Inside w w2 A C) := ⟨H3.out.1.below hb, H3.out.2.trans (Inside.of_below hb)⟩
      clear hb H3
      have hnn : n = pre.length + 1 + post.length := by rw [HPL.out]; exact HNN.out
      have c2 := H4.out.1.cell hnn 2 (by simp)
      have p2 := H4.out.1.put hnn 2 (by simp) (.string (markB (m + 2)))
      have c3 := p2.1.cell hnn 3 (by simp)
      have p3 := p2.1.put hnn 3 (by simp) (.int .i64 ((m : Int) + 1 + 1 + 1))
      have c4 := p3.1.cell hnn 4 (by simp)
      have p4 := p3.1.put hnn 4 (by simp) (.int .i64 ((m : Int) + 1 + 1 + 1 + 1))
      rw [HPL.out] at c2 p2 c3 p3 c4 p4
      simp only [List.getElem_cons_zero, List.getElem_cons_succ, List.set_cons_zero, List.set_cons_succ, Nat.add_zero] at c2 p2 c3 p3 c4 p4
      obtain ⟨x2, f2⟩ := c2
      obtain ⟨x3, f3⟩ := c3
      obtain ⟨x4, f4⟩ := c4
      have H5 : Hid (HO A C (.slice (some ⟨g, 0, none⟩) n cap) (pre ++ ⟨⟨markB m, markB (m + 2), (m : Int) + 1, (m : Int) + 1 + 1 + 1, (m : Int) + 1 + 1 + 1 + 1, q.x.el, q.x.pl⟩, q.e, q.p⟩ :: post) (((w2.setCell ⟨g, j * 7 + 2, none⟩ (.string (markB (m + 2)))).setCell ⟨g, j * 7 + 3, none⟩ (.int .i64 ((m : Int) + 1 + 1 + 1))).setCell ⟨g, j * 7 + 4, none⟩ (.int .i64 ((m : Int) + 1 + 1 + 1 + 1))) ∧ Inside w (((w2.setCell ⟨g, j * 7 + 2, none⟩ (.string (markB (m + 2)))).setCell ⟨g, j * 7 + 3, none⟩ (.int .i64 ((m : Int) + 1 + 1 + 1))).setCell ⟨g, j * 7 + 4, none⟩ (.int .i64 ((m : Int) + 1 + 1 + 1 + 1))) A C) := ⟨HOc.shut (q' := ⟨⟨markB m, markB (m + 2), (m : Int) + 1, (m : Int) + 1 + 1 + 1, (m : Int) + 1 + 1 + 1 + 1, q.x.el, q.x.pl⟩, q.e, q.p⟩) p4.1 rfl rfl rfl rfl, ((H4.out.2.trans p2.2).trans p3.2).trans p4.2⟩
      obtain ⟨x5, f5⟩ := H5.out.1.open.cell hnn 5 (by simp [Hv.cells])
      rw [HPL.out] at x5 f5
      simp only [Hv.cells, List.getElem_cons_zero, List.getElem_cons_succ] at x5
      obtain ⟨W5, hW5⟩ : ∃ W, W = (((w2.setCell ⟨g, j * 7 + 2, none⟩ (.string (markB (m + 2)))).setCell ⟨g, j * 7 + 3, none⟩ (.int .i64 ((m : Int) + 1 + 1 + 1))).setCell ⟨g, j * 7 + 4, none⟩ (.int .i64 ((m : Int) + 1 + 1 + 1 + 1))) := ⟨_, rfl⟩
      rw [← hW5] at H5
      have HW5 : Hid (W5 = (((w2.setCell ⟨g, j * 7 + 2, none⟩ (.string (markB (m + 2)))).setCell ⟨g, j * 7 + 3, none⟩ (.int .i64 ((m : Int) + 1 + 1 + 1))).setCell ⟨g, j * 7 + 4, none⟩ (.int .i64 ((m : Int) + 1 + 1 + 1 + 1)))) := hW5
      have hq5 := H5.out.1.2.1 _ (List.mem_append.2 (.inr (List.mem_cons_self ..)))
      have E5 : Hid (∀ z : Int, z = ((m + 5 : Nat) : Int) → Calls Tryz.prog 30 #[q.e, .int .i64 z] W5 fun e w' => e = .returned (.int .i64 ((m + 5 + q.x.el.length : Nat) : Int)) ∧ OwnT w' A q.e (marks (m + 5) q.x.el.length) ∧ W5.grownBy w' q.e.ownBlock) := fun z hz => EM.out q.e q.x.el z (m + 5) W5 hq5.1 hz (by omega) (by have := HM.out.2.1; unfold Hv.cnt at this; omega) (by have := HQL.out; omega)
      clear p2 p3 p4 H4 hnn hW5 hq5
      go_wp2_with fail
      rw [← HW5.out]
      clear HW5 x2 f2 x3 f3 x4 f4 x5 f5
      refine (E5.out _ (by omega)).mono ?_
      rintro e w6 ⟨rfl, ho6, hg6⟩
      have t6 := H5.out.1.turnE hg6 ho6
      have H6 : Hid (HO A C (.slice (some ⟨g, 0, none⟩) n cap) (pre ++ ⟨⟨markB m, markB (m + 2), (m : Int) + 1, (m : Int) + 1 + 1 + 1, (m : Int) + 1 + 1 + 1 + 1, marks (m + 5) q.x.el.length, q.x.pl⟩, q.e, q.p⟩ :: post) w6 ∧ Inside w w6 A C) := ⟨t6.1, H5.out.2.trans t6.2⟩
      have hnn : n = pre.length + 1 + post.length := by rw [HPL.out]; exact HNN.out
      obtain ⟨x6, f6⟩ := H6.out.1.open.cell hnn 6 (by simp [Hv.cells])
      rw [HPL.out] at x6 f6
      simp only [Hv.cells, List.getElem_cons_zero, List.getElem_cons_succ] at x6
      have hq6 := H6.out.1.2.1 _ (List.mem_append.2 (.inr (List.mem_cons_self ..)))
      have E6 : Hid (∀ z : Int, z = ((m + 5 + q.x.el.length : Nat) : Int) → Calls Tryz.prog 30 #[q.p, .int .i64 z] w6 fun e w' => e = .returned (.int .i64 ((m + 5 + q.x.el.length + q.x.pl.length : Nat) : Int)) ∧ OwnT w' A q.p (marks (m + 5 + q.x.el.length) q.x.pl.length) ∧ w6.grownBy w' q.p.ownBlock) := fun z hz => EM.out q.p q.x.pl z (m + 5 + q.x.el.length) w6 hq6.2 hz (by omega) (by have := HM.out.2.1; unfold Hv.cnt at this; omega) (by have := HQL.out; omega)
      clear t6 ho6 hg6 H5 E5 hnn hq6
      obtain ⟨zz, hzz⟩ : ∃ zz : Int, zz = ((m + 5 + q.x.el.length : Nat) : Int) := ⟨_, rfl⟩
      rw [← hzz] at E6 ⊢
      have E7 : Hid (Calls Tryz.prog 30 #[q.p, .int .i64 zz] w6 fun e w' => e = .returned (.int .i64 ((m + 5 + q.x.el.length + q.x.pl.length : Nat) : Int)) ∧ OwnT w' A q.p (marks (m + 5 + q.x.el.length) q.x.pl.length) ∧ w6.grownBy w' q.p.ownBlock) := E6.out zz rfl
      clear E6 hzz
      go_wp2_with fail
      clear x6 f6
      refine E7.out.mono ?_
      rintro e w7 ⟨rfl, ho7, hg7⟩
      have t7 := H6.out.1.turnP hg7 ho7
      have hfin : (⟨⟨markB m, markB (m + 2), (m : Int) + 1, (m : Int) + 1 + 1 + 1, (m : Int) + 1 + 1 + 1 + 1, marks (m + 5) q.x.el.length, marks (m + 5 + q.x.el.length) q.x.pl.length⟩, q.e, q.p⟩ : Hv) = q.mark m := by
        unfold Hv.mark
        congr 2 <;> omega
      have H7 : Hid (HO A C (.slice (some ⟨g, 0, none⟩) n cap) (markHs k (l.take (j + 1)) ++ post) w7 ∧ Inside w w7 A C) := by
        refine ⟨?_, H6.out.2.trans t7.2⟩
        have h1 := t7.1
        dsimp only at h1
        rw [hfin] at h1
        rw [← HL.out, List.append_assoc, List.singleton_append]
        exact h1
      have HMM : Hid (m + 5 + q.x.el.length + q.x.pl.length = k + cntHs (l.take (j + 1))) := by
        have := HM.out.2.2
        unfold Hv.cnt at this
        show _ = _
        omega
      clear t7 hfin ho7 hg7 H6 E7
      generalize hM2 : m + 5 + q.x.el.length + q.x.pl.length = M2 at *
      clear hM2
      go_wp2
      go_roundw
      case rel => exact ⟨j + 1, M2, by omega, rfl, by go_num, HMM.out, by rw [HPO.out]; exact H7.out.1, H7.out.2⟩
      case measure => simp [RowKit.intOf]; omega
    · have ej : j = n := by omega
      have hjnI : ¬ (j : Int) < (n : Int) := by omega
      have htk : l.take j = l := List.take_of_length_le (by have := HN.out.1; omega)
      rw [htk, List.drop_eq_nil_of_le (by have := HN.out.1; omega), List.append_nil] at ho
      rw [htk] at hm
      have H7 : Hid (HO A C (.slice a n cap) (markHs k l) wr ∧ Inside w wr A C ∧ m = k + cntHs l) := ⟨ho, hi, hm⟩
      clear ho hi hm htk HV
      go_wp2
      go_ret
      exact ⟨ret_num (by have := H7.out.2.2; omega), H7.out.1, H7.out.2.1⟩
end Go.Proofs.YtcenlgfopmahcaaGreatDoor

/-
  A watch that a law has made of its argument: it can be read, it stays, it is marked.
-/
namespace Go.Proofs.YtcenlgfopmahcaaGreatDoor
open Go.RowKit Go.Lib
set_option linter.unusedVariables false
set_option linter.unusedSimpArgs false

/-- Its rows, each of its own, from the block n0 on, ahead of n9. -/
def XRows (t : Wt) (l : List Hv) (b0 b1 b2 b3 b4 b5 b6 b7 bp : Option Addr) (d0 d1 d2 d3 d4 d5 d6 d7 np dp : Nat) (n0 n9 : Nat) (X : World) : Prop :=
  ∃ (l' : List Hv) (n1 n2 n3 n4 n5 n6 n7 n8 : Nat), l'.map Hv.x = l.map Hv.x ∧ (OwnT X n0 (.slice b0 t.en.length d0) t.en ∧ OwnT X n1 (.slice b1 t.h.el.length d1) t.h.el ∧ OwnT X n2 (.slice b2 t.h.pl.length d2) t.h.pl ∧ HO n3 n4 (.slice bp np dp) l' X ∧ Owns5 X n4 n5 n6 n7 n8 (.slice b3 t.a.el.length d3) (.slice b4 t.a.pl.length d4) (.slice b5 t.b.el.length d5) (.slice b6 t.b.pl.length d6) (.slice b7 t.fl.length d7) t.a.el t.a.pl t.b.el t.b.pl t.fl) ∧
    ((∀ g, (Value.slice b0 t.en.length d0).ownBlock = some g → g < n1) ∧ (∀ g, (Value.slice b1 t.h.el.length d1).ownBlock = some g → g < n2) ∧ (∀ g, (Value.slice b2 t.h.pl.length d2).ownBlock = some g → g < n3) ∧ (∀ g, (Value.slice b7 t.fl.length d7).ownBlock = some g → g < n9)) ∧ (n0 ≤ n1 ∧ n1 ≤ n2 ∧ n2 ≤ n3 ∧ n3 ≤ n4 ∧ n8 ≤ n9 ∧ n9 ≤ X.heap.size)
theorem XRows.below {t : Wt} {l : List Hv} {b0 b1 b2 b3 b4 b5 b6 b7 bp : Option Addr} {d0 d1 d2 d3 d4 d5 d6 d7 np dp : Nat} {n0 n9 : Nat} {X Y : World} (h : XRows t l b0 b1 b2 b3 b4 b5 b6 b7 bp d0 d1 d2 d3 d4 d5 d6 d7 np dp n0 n9 X) (hb : Below X.heap.size X Y) : XRows t l b0 b1 b2 b3 b4 b5 b6 b7 bp d0 d1 d2 d3 d4 d5 d6 d7 np dp n0 n9 Y := by
  obtain ⟨l', n1, n2, n3, n4, n5, n6, n7, n8, hm, ⟨o0, o1, o2, o3, o4⟩, hq, z0, z1, z2, z3, z4, z5⟩ := h
  exact ⟨l', n1, n2, n3, n4, n5, n6, n7, n8, hm, ⟨o0.below hb (Nat.le_refl _), o1.below hb (Nat.le_refl _), o2.below hb (Nat.le_refl _), o3.below hb, o4.below hb (Nat.le_refl _)⟩, hq, z0, z1, z2, z3, z4, Nat.le_trans z5 hb.size⟩
theorem XRows.ins {t : Wt} {l : List Hv} {b0 b1 b2 b3 b4 b5 b6 b7 bp : Option Addr} {d0 d1 d2 d3 d4 d5 d6 d7 np dp : Nat} {n0 n9 : Nat} {X : World} (h : XRows t l b0 b1 b2 b3 b4 b5 b6 b7 bp d0 d1 d2 d3 d4 d5 d6 d7 np dp n0 n9 X) : ∃ l' : List Hv, (t.In (.slice b0 t.en.length d0) (.slice b1 t.h.el.length d1) (.slice b2 t.h.pl.length d2) (.slice b3 t.a.el.length d3) (.slice b4 t.a.pl.length d4) (.slice b5 t.b.el.length d5) (.slice b6 t.b.pl.length d6) (.slice b7 t.fl.length d7) X X.heap.size ∧ Heads X X.heap.size (.slice bp np dp) l' ∧ l'.map Hv.x = l.map Hv.x) := by
  obtain ⟨l', n1, n2, n3, n4, n5, n6, n7, n8, hm, ⟨o0, o1, o2, o3, o4⟩, _⟩ := h
  exact ⟨l', ⟨o0.texts, ⟨o1.texts, o2.texts⟩, ⟨o4.1.1.texts, o4.1.2.1.texts⟩, ⟨o4.1.2.2.1.texts, o4.1.2.2.2.1.texts⟩, o4.1.2.2.2.2.texts⟩, o3.heads, hm⟩
/-- What toWatch answers. -/
def ToX (t : Wt) (l : List Hv) (X : World) (e : Ending) (w' : World) : Prop :=
  ∃ (b0 b1 b2 b3 b4 b5 b6 b7 bp : Option Addr) (d0 d1 d2 d3 d4 d5 d6 d7 np dp : Nat) (n0 : Nat), e = .returned (.agg #[.string t.log, .string t.key, .slice b0 t.en.length d0, .string t.h.log, .int .i64 t.h.size, .string t.h.root, .int .i64 t.h.time, .int .i64 t.h.k, .slice b1 t.h.el.length d1, .slice b2 t.h.pl.length d2, .slice bp np dp, .bool t.found, .string t.a.log, .int .i64 t.a.size, .string t.a.root, .int .i64 t.a.time, .int .i64 t.a.k, .slice b3 t.a.el.length d3, .slice b4 t.a.pl.length d4, .string t.b.log, .int .i64 t.b.size, .string t.b.root, .int .i64 t.b.time, .int .i64 t.b.k, .slice b5 t.b.el.length d5, .slice b6 t.b.pl.length d6, .slice b7 t.fl.length d7]) ∧ XRows t l b0 b1 b2 b3 b4 b5 b6 b7 bp d0 d1 d2 d3 d4 d5 d6 d7 np dp n0 w'.heap.size w' ∧ X.heap.size ≤ n0 ∧ n0 ≤ w'.heap.size ∧ Below X.heap.size X w'
theorem WIn.toX {t : Wt} {l : List Hv} {X w' : World} {e : Ending} (h : WIn t l X e w') : ToX t l X e w' := by
  obtain ⟨u0, u1, u2, up, u3, u4, u5, u6, u7, l', n0, n1, n2, n3, n4, n5, n6, n7, n8, rfl, ⟨o0, o1, o2, ⟨r1, r2, r3⟩, o4⟩, ⟨q0, q1, q2, qp, qb⟩, ⟨z0, z1, z2, z3, z4⟩, hm, hb⟩ := h
  obtain ⟨b0, d0, rfl⟩ := o0.len
  obtain ⟨b1, d1, rfl⟩ := o1.len
  obtain ⟨b2, d2, rfl⟩ := o2.len
  obtain ⟨b3, d3, rfl⟩ := o4.1.1.len
  obtain ⟨b4, d4, rfl⟩ := o4.1.2.1.len
  obtain ⟨b5, d5, rfl⟩ := o4.1.2.2.1.len
  obtain ⟨b6, d6, rfl⟩ := o4.1.2.2.2.1.len
  obtain ⟨b7, d7, rfl⟩ := o4.1.2.2.2.2.len
  obtain ⟨bp, dp, rfl, _⟩ : ∃ a cap, up = .slice a l'.length cap ∧ True := by
    rcases r1.2 with ⟨rfl, h0⟩ | ⟨g, cap, cur, rfl, _⟩
    · exact ⟨none, 0, by rw [h0], trivial⟩
    · exact ⟨_, cap, rfl, trivial⟩
  have hn4 : n4 ≤ w'.heap.size := by have := o4.2.2; omega
  refine ⟨b0, b1, b2, b3, b4, b5, b6, b7, bp, d0, d1, d2, d3, d4, d5, d6, d7, l'.length, dp, n0, rfl, ⟨l', n1, n2, n3, n4, n5, n6, n7, n8, hm, ⟨o0, o1, o2, ⟨r1, fun q hq => ?_, r3, qp, qb, hn4⟩, o4⟩, ⟨q0, q1, q2, fun g hg => (World.ownsRow.lt o4.1.2.2.2.2 g hg).2⟩, z1, z2, z3, z4, o4.2.2.2.2.2.2, Nat.le_refl _⟩, z0, by omega, hb⟩
  obtain ⟨j, hj, rfl⟩ := List.getElem_of_mem hq
  exact r2 j hj
theorem cntHs_lim : ∀ l : List Hv, (∀ q ∈ l, q.x.el.length ≤ 1048576 ∧ q.x.pl.length ≤ 1048576) → cntHs l ≤ l.length * 2097157
  | [], _ => by simp [cntHs]
  | q :: r, h => by
    have h1 := h q (List.mem_cons_self ..)
    have h2 := cntHs_lim r fun y hy => h y (List.mem_cons_of_mem _ hy)
    simp only [cntHs, List.length_cons]
    unfold Hv.cnt
    omega
theorem lim_mem {l l' : List Hv} (hl : HdsLim l) (hm : l'.map Hv.x = l.map Hv.x) : (∀ q ∈ l', q.x.el.length ≤ 1048576 ∧ q.x.pl.length ≤ 1048576) ∧ l'.length ≤ 1048576 := by
  have h' := hl.map hm
  refine ⟨fun q hq => ?_, h'.1⟩
  obtain ⟨j, hj, rfl⟩ := List.getElem_of_mem hq
  exact ⟨(h'.2 j hj).2.2.1, (h'.2 j hj).2.2.2⟩
/-- It is marked: nothing else turns. -/
theorem XRows.mark {t : Wt} {l : List Hv} {b0 b1 b2 b3 b4 b5 b6 b7 bp : Option Addr} {d0 d1 d2 d3 d4 d5 d6 d7 np dp : Nat} {n0 n9 : Nat} {X : World} (h : XRows t l b0 b1 b2 b3 b4 b5 b6 b7 bp d0 d1 d2 d3 d4 d5 d6 d7 np dp n0 n9 X) (hf : t.Lens) (hl : HdsLim l) :
    Calls Tryz.prog 10 #[.agg #[.string t.log, .string t.key, .slice b0 t.en.length d0, .string t.h.log, .int .i64 t.h.size, .string t.h.root, .int .i64 t.h.time, .int .i64 t.h.k, .slice b1 t.h.el.length d1, .slice b2 t.h.pl.length d2, .slice bp np dp, .bool t.found, .string t.a.log, .int .i64 t.a.size, .string t.a.root, .int .i64 t.a.time, .int .i64 t.a.k, .slice b3 t.a.el.length d3, .slice b4 t.a.pl.length d4, .string t.b.log, .int .i64 t.b.size, .string t.b.root, .int .i64 t.b.time, .int .i64 t.b.k, .slice b5 t.b.el.length d5, .slice b6 t.b.pl.length d6, .slice b7 t.fl.length d7], .int .i64 1] X fun e w' => (∃ k : Nat, e = .returned (.int .i64 k)) ∧ Inside X w' n0 n9 := by
  obtain ⟨l', n1, n2, n3, n4, n5, n6, n7, n8, hm, ⟨o0, o1, o2, o3, o4⟩, ⟨q0, q1, q2, q7⟩, z0, z1, z2, z3, z4, z5⟩ := h
  obtain ⟨hq, hlen⟩ := lim_mem hl hm
  have hc : cntHs l' ≤ 10000000000000 := by have := cntHs_lim l' hq; omega
  have hz4 : n4 ≤ n9 := by have := o4.2.2; omega
  refine (markW_any t _ _ _ _ _ _ _ _ _ _ _ _ _ _ _ _ bp np dp X 1 (cntHs l') n0 n1 n2 n3 n4 n5 n6 n7 n8 n9 (HO n3 n4 (.slice bp np dp) l') (HO n3 n4 (.slice bp np dp) (markHs (1 + t.en.length + t.h.el.length + t.h.pl.length) l')) (HO.loc _ _ _ _) (HO.loc _ _ _ _) o0 o1 o2 o3 o4 q0 q1 q2 q7 ⟨z0, z1, z2, z3, z4, z5⟩ ⟨by omega, by omega⟩ ⟨by have := hf.2.2.1; omega, by have := hf.2.2.2.1.2.2.1; omega, by have := hf.2.2.2.1.2.2.2; omega, by have := hf.2.2.2.2.1.2.2.1; omega, by have := hf.2.2.2.2.1.2.2.2; omega, by have := hf.2.2.2.2.2.1.2.2.1; omega, by have := hf.2.2.2.2.2.1.2.2.2; omega, by have := hf.2.2.2.2.2.2; omega, hc⟩ ?_).mono fun e w' h => ⟨⟨_, h.1⟩, h.2.2⟩
  intro Y hY hz
  exact (markHeads_any _ l' _ n3 n4 Y hY (by omega) (by have := hf.2.2.1; have := hf.2.2.2.1.2.2.1; have := hf.2.2.2.1.2.2.2; omega) (by omega) fun q hq2 => ⟨by have := (hq q hq2).1; omega, by have := (hq q hq2).2; omega⟩).mono fun e w' h => ⟨h.1, h.2.1, h.2.2⟩
end Go.Proofs.YtcenlgfopmahcaaGreatDoor

/-
  A row of heads held to its marks.
-/
namespace Go.Proofs.YtcenlgfopmahcaaGreatDoor
open Go.RowKit Go.Lib
set_option linter.unusedVariables false
set_option linter.unusedSimpArgs false

/-- The cells of a head of such a row. -/
theorem HO.cells7 {A C g n cap : Nat} {l : List Hv} {X : World} (h : HO A C (.slice (some ⟨g, 0, none⟩) n cap) l X) (j : Nat) (hj : j < l.length) :
    (X.cell? ⟨g, j * 7, none⟩ = some (.string l[j].x.log) ∧ X.cell? ⟨g, j * 7 + 1, none⟩ = some (.int .i64 l[j].x.size) ∧ X.cell? ⟨g, j * 7 + 2, none⟩ = some (.string l[j].x.root) ∧ X.cell? ⟨g, j * 7 + 3, none⟩ = some (.int .i64 l[j].x.time) ∧ X.cell? ⟨g, j * 7 + 4, none⟩ = some (.int .i64 l[j].x.k) ∧ X.cell? ⟨g, j * 7 + 5, none⟩ = some l[j].e ∧ X.cell? ⟨g, j * 7 + 6, none⟩ = some l[j].p) ∧ g < X.heap.size := by
  have hc : ∀ i u, l[j].cells[i]? = some u → X.cell? ⟨g, j * 7 + i, none⟩ = some u := fun i u hu => by
    have h0 := World.ownsRow.cells h.1 (g := g) rfl (j * 7 + i) u (flat_at l j i hj u hu)
    have hadd : (⟨g, 0, none⟩ : Addr).add (j * 7 + i) = ⟨g, j * 7 + i, none⟩ := by unfold Addr.add; split <;> simp_all
    rw [hadd] at h0
    exact h0
  exact ⟨⟨hc 0 _ rfl, hc 1 _ rfl, hc 2 _ rfl, hc 3 _ rfl, hc 4 _ rfl, hc 5 _ rfl, hc 6 _ rfl⟩, (World.ownsRow.lt h.1 g rfl).2⟩

set_option maxHeartbeats 4000000 in
set_option maxRecDepth 10000 in
theorem heldHeads_any (v : Value) (l : List Hv) (k A C : Nat) (w : World) (h : HO A C v (markHs k l) w) (hk0 : 1 ≤ k) (hk1 : k + cntHs l ≤ 90000000000000) (hl : l.length ≤ 2000000) (hlim : ∀ q ∈ l, q.x.el.length ≤ 2000000 ∧ q.x.pl.length ≤ 2000000) :
    Calls Tryz.prog 12 #[v, .int .i64 k] w fun e w' => e = .returned (.int .i64 ((k + cntHs l : Nat) : Int)) ∧ Below w.heap.size w w' := by
  obtain ⟨a, cap, rfl, hv⟩ := h.slice
  rw [markHs_len] at h hv ⊢
  obtain ⟨n, hn⟩ : ∃ n, n = l.length := ⟨_, rfl⟩
  have HN : Hid (n = l.length ∧ n ≤ 2000000) := ⟨hn, by omega⟩
  have HV : Hid (n = 0 ∨ ∃ g, a = some ⟨g, 0, none⟩) := by rw [hn]; exact hv
  rw [← hn] at h ⊢
  have ET : Hid (∀ (z : Int) (m : Nat) X, z = (m : Int) → 1 ≤ m → m ≤ 1000000000000000 → Calls Tryz.prog 33 #[.int .i64 z] X fun e w' => e = .returned (.string (markB m)) ∧ Below X.heap.size X w') := fun z m X hz h0 h1 => by subst hz; exact markText_any m X h0 h1
  have EM : Hid (∀ (u : Value) (c : Nat) (z : Int) (i : Nat) X, OwnT X A u (marks i c) → z = (i : Int) → 1 ≤ i → i ≤ 100000000000000 → c ≤ 100000000 → Calls Tryz.prog 34 #[u, .int .i64 z] X fun e w' => e = .returned (.int .i64 ((i + c : Nat) : Int)) ∧ Below X.heap.size X w') := fun u c z i X ho hz h0 h1 hm => by subst hz; exact held_any u i c X A ho h0 h1 hm
  have H0 : Hid (HO A C (.slice a n cap) (markHs k l) w) := h
  have HLM : Hid (∀ q ∈ l, q.x.el.length ≤ 2000000 ∧ q.x.pl.length ≤ 2000000) := hlim
  have HK : Hid (k + cntHs l ≤ 90000000000000 ∧ 1 ≤ k) := ⟨hk1, hk0⟩
  clear h hv hn hl hk1 hk0 hlim
  go_enter Tryz.func12, Tryz.ntmps12
  go_wp2
  go_loopw [1, 5] (fun x i wr => ∃ (j m : Nat), j ≤ n ∧ x = .int .i64 (m : Int) ∧ i = .int .i64 j ∧ m = k + cntHs (l.take j) ∧ Below w.heap.size w wr) (fun _ i _ => n - (RowKit.intOf i).toNat)
  case atStart => exact ⟨0, k, Nat.zero_le _, rfl, rfl, by simp [cntHs], Below.refl _ _⟩
  case round =>
    obtain ⟨j, m, hj, rfl, rfl, hm, hb⟩ := hrel
    by_cases hjn : j < n
    · have hjl : j < l.length := by have := HN.out.1; omega
      have hjm : j < (markHs k l).length := by rw [markHs_len]; exact hjl
      rcases HV.out with h0 | ⟨g, rfl⟩
      · omega
      have hcnt := cntHs_step l j hjl
      have hcl := cntHs_le l (j + 1)
      have hat := markHs_at l k j hjl
      rw [← hm] at hat
      have HX : Hid (∀ X, Below w.heap.size w X → (X.cell? ⟨g, j * 7, none⟩ = some (.string (markB m)) ∧ X.cell? ⟨g, j * 7 + 1, none⟩ = some (.int .i64 ((m : Int) + 1)) ∧ X.cell? ⟨g, j * 7 + 2, none⟩ = some (.string (markB (m + 2))) ∧ X.cell? ⟨g, j * 7 + 3, none⟩ = some (.int .i64 ((m : Int) + 1 + 1 + 1)) ∧ X.cell? ⟨g, j * 7 + 4, none⟩ = some (.int .i64 ((m : Int) + 1 + 1 + 1 + 1)) ∧ X.cell? ⟨g, j * 7 + 5, none⟩ = some l[j].e ∧ X.cell? ⟨g, j * 7 + 6, none⟩ = some l[j].p) ∧ OwnT X A l[j].e (marks (m + 5) l[j].x.el.length) ∧ OwnT X A l[j].p (marks (m + 5 + l[j].x.el.length) l[j].x.pl.length)) := fun X q => by
        have hX := H0.out.below q
        have h7 := (hX.cells7 j hjm).1
        have ht := hX.2.1 _ (List.getElem_mem hjm)
        rw [hat] at h7 ht
        have e1 : ((m + 1 : Nat) : Int) = (m : Int) + 1 := by omega
        have e3 : ((m + 3 : Nat) : Int) = (m : Int) + 1 + 1 + 1 := by omega
        have e4 : ((m + 4 : Nat) : Int) = (m : Int) + 1 + 1 + 1 + 1 := by omega
        simp only [Hv.mark, e1, e3, e4] at h7
        exact ⟨h7, ht.1, ht.2⟩
      have HM : Hid (1 ≤ m ∧ m + l[j].cnt ≤ 90000000000000 ∧ m + l[j].cnt = k + cntHs (l.take (j + 1))) := by have := HK.out; exact ⟨by omega, by omega, by omega⟩
      have HQL : Hid (l[j].x.el.length ≤ 2000000 ∧ l[j].x.pl.length ≤ 2000000) := HLM.out _ (List.getElem_mem hjl)
      generalize l[j] = q at *
      have HB : Hid (Below w.heap.size w wr) := hb
      have hjnI : (j : Int) < (n : Int) := by omega
      have hm0 : m ≤ 90000000000000 := by have := HM.out; omega
      have hjj : j ≤ 2000000 := by have := HN.out.2; omega
      have c0 := (HX.out wr hb).1.1
      have c0' : wr.drew.cell? ⟨g, j * 7, none⟩ = some (.string (markB m)) := c0
      have E1 : Hid (∀ X, Calls Tryz.prog 33 #[.int .i64 (m : Int)] X fun e w' => e = .returned (.string (markB m)) ∧ Below X.heap.size X w') := fun X => ET.out _ m X rfl HM.out.1 (by omega)
      have E2 : Hid (∀ X, Calls Tryz.prog 33 #[.int .i64 ((m : Int) + 1 + 1)] X fun e w' => e = .returned (.string (markB (m + 2))) ∧ Below X.heap.size X w') := fun X => ET.out _ (m + 2) X (by omega) (by omega) (by omega)
      clear hb hm hcnt hcl hat hjl hjm HV ET H0
      generalize markB m = M0 at *
      generalize markB (m + 2) = M2 at *
      go_wp2
      go_region_with (go_at_call 33; refine (E1.out _).mono ?_; rintro e w1 ⟨rfl, hb1⟩; have HB1 : Hid (Below w.heap.size w w1) := HB.out.trans (below_drew (hb1.mono HB.out.size)); have hc1 : w1.cell? ⟨g, j * 7, none⟩ = some (.string M0) := (HX.out w1 HB1.out).1.1; clear hb1)
      all_goals
        clear hc1 c0 c0' E1 HB
        have x := (HX.out w1 HB1.out).1
        obtain ⟨x0, x1, x2, x3, x4, x5, x6⟩ := x
        have x2' : w1.drew.cell? ⟨g, j * 7 + 2, none⟩ = some (.string M2) := x2
        clear x0 x3 x4 x5 x6
        go_wp2
        go_region_with (go_at_call 33; refine (E2.out _).mono ?_; rintro e w2 ⟨rfl, hb2⟩; have HB2 : Hid (Below w.heap.size w w2) := HB1.out.trans (below_drew (hb2.mono HB1.out.size)); have hc2 : w2.cell? ⟨g, j * 7 + 2, none⟩ = some (.string M2) := (HX.out w2 HB2.out).1.2.2.1; clear hb2)
        all_goals
          clear hc2 x1 x2 x2' E2 HB1
          have x := (HX.out w2 HB2.out).1
          obtain ⟨x0, x1, x2, x3, x4, x5, x6⟩ := x
          clear x0 x1 x2 x6
          have E3 : Hid (∀ z : Int, z = ((m + 5 : Nat) : Int) → Calls Tryz.prog 34 #[q.e, .int .i64 z] w2 fun e w' => e = .returned (.int .i64 ((m + 5 + q.x.el.length : Nat) : Int)) ∧ Below w2.heap.size w2 w') := fun z hz => EM.out q.e q.x.el.length z (m + 5) w2 (HX.out w2 HB2.out).2.1 hz (by omega) (by have := HM.out.2.1; unfold Hv.cnt at this; omega) (by have := HQL.out; omega)
          go_wp2_with fail
          clear x3 x4 x5
          refine (E3.out _ (by omega)).mono ?_
          rintro e w3 ⟨rfl, hb3⟩
          have HB3 : Hid (Below w.heap.size w w3) := HB2.out.trans (hb3.mono HB2.out.size)
          clear hb3 HB2 E3
          have x6 := (HX.out w3 HB3.out).1.2.2.2.2.2.2
          obtain ⟨zz, hzz⟩ : ∃ zz : Int, zz = ((m + 5 + q.x.el.length : Nat) : Int) := ⟨_, rfl⟩
          have hz0 : ¬ zz < 0 := by omega
          have E4 : Hid (Calls Tryz.prog 34 #[q.p, .int .i64 zz] w3 fun e w' => e = .returned (.int .i64 ((m + 5 + q.x.el.length + q.x.pl.length : Nat) : Int)) ∧ Below w3.heap.size w3 w') := EM.out q.p q.x.pl.length zz (m + 5 + q.x.el.length) w3 (HX.out w3 HB3.out).2.2 hzz (by omega) (by have := HM.out.2.1; unfold Hv.cnt at this; omega) (by have := HQL.out; omega)
          rw [← hzz]
          clear hzz
          go_wp2_with fail
          clear x6
          refine E4.out.mono ?_
          rintro e w4 ⟨rfl, hb4⟩
          have HB4 : Hid (Below w.heap.size w w4) := HB3.out.trans (hb4.mono HB3.out.size)
          have HMM : Hid (m + 5 + q.x.el.length + q.x.pl.length = k + cntHs (l.take (j + 1))) := by
            have := HM.out.2.2
            unfold Hv.cnt at this
            show _ = _
            omega
          clear hb4 HB3 E4
          generalize hM2 : m + 5 + q.x.el.length + q.x.pl.length = MM at *
          have hz1 : ¬ (MM : Int) < 0 := by omega
          clear hM2
          go_wp2
          go_roundw
          case rel => exact ⟨j + 1, MM, by omega, rfl, by go_num, HMM.out, HB4.out⟩
          case measure => simp [RowKit.intOf]; omega
    · have ej : j = n := by omega
      have hjnI : ¬ (j : Int) < (n : Int) := by omega
      have htk : l.take j = l := List.take_of_length_le (by have := HN.out.1; omega)
      rw [htk] at hm
      have H7 : Hid (Below w.heap.size w wr ∧ m = k + cntHs l) := ⟨hb, hm⟩
      clear hb hm htk HV
      go_wp2
      go_ret
      exact ⟨ret_num (by have := H7.out.2; omega), H7.out.1⟩
end Go.Proofs.YtcenlgfopmahcaaGreatDoor
