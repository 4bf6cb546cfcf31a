/-
  Rows of heads that came in: their size; their copies.
-/
import Derived.Test.YtpglcbidfghfkabGreatDoorPkCopyHead
import Derived.Test.YtpglcbidfghfkabGreatDoorPkHdV
import Derived.Deep.MidRow
namespace Go.Proofs.YtpglcbidfghfkabGreatDoor
open Go.RowKit Go.Lib
set_option linter.unusedVariables false
set_option linter.unusedSimpArgs false

theorem Hv.At.range {q : Hv} {w : World} {b o : Nat} (h : q.At w b o) : w.rangeAt b o q.cells := h
set_option maxHeartbeats 2000000 in
set_option maxRecDepth 10000 in
theorem szHeads_any (v : Value) (l : List Hv) (left : Int) (w : World) (h : HeadsArg w v l) (h0 : 0 ≤ left) (hle : left ≤ 1048576) :
    Calls Tryz.prog 34 #[v, .int .i64 left] w fun e w' => ∃ r : Int, e = .returned (.int .i64 r) ∧ -1048577 ≤ r ∧ r ≤ 1048576 ∧ (r < 0 ∨ HdsLim l) ∧ Below w.heap.size w w' := by
  obtain ⟨⟨⟨a, cap, rfl, hcap, hc⟩, hin⟩, hlen, harg⟩ := h
  have HC : Hid (l.length = 0 ∨ ∃ b off, a = some ⟨b, off, none⟩ ∧ b < w.heap.size ∧ ∀ j (hj : j < l.length), l[j].At w b (off + j * 7)) := hc
  have HA : Hid (∀ j (hj : j < l.length), l[j].x.Arg l[j].e l[j].p w) := harg
  clear hc hin harg hcap
  by_cases hlt : left - (l.length : Int) < 0
  · go_enter Tryz.func34, Tryz.ntmps34
    go_wp2
    go_ret
    exact ⟨-1, rfl, by omega, by omega, .inl (by omega), Below.refl _ _⟩
  obtain ⟨n, hn⟩ : ∃ n, n = l.length := ⟨_, rfl⟩
  have HN : Hid (n = l.length) := hn
  rw [← hn] at hlen hlt ⊢
  clear hn
  go_enter Tryz.func34, Tryz.ntmps34
  go_wp2
  go_loopw [1, 5] (fun x i wr => ∃ (k : Nat) (r : Int), k ≤ n ∧ i = .int .i64 k ∧ x = .int .i64 r ∧ 0 ≤ r ∧ r ≤ 1048576 ∧ (∀ j (hj : j < l.length), j < k → l[j].x.Lim) ∧ Below w.heap.size w wr) (fun _ i _ => n - (intOf i).toNat)
  case atStart => exact ⟨0, _, Nat.zero_le _, rfl, rfl, by omega, by omega, fun j _ h => by omega, Below.refl _ _⟩
  case round =>
    obtain ⟨k, r, hk, rfl, rfl, hr0, hr1, hall, hb⟩ := hrel
    have HL : Hid (∀ j (hj : j < l.length), j < k → l[j].x.Lim) := hall
    have HB : Hid (Below w.heap.size w wr) := hb
    clear hall hb
    by_cases hkn : k < n
    · have hkl : k < l.length := by rw [← HN.out]; exact hkn
      rcases HC.out with h0 | ⟨b, off, rfl, hB, hat⟩
      · omega
      have hrange : wr.rangeAt b (off + k * 7) l[k].cells := ((hat k hkl).same (HB.out.block b hB)).range
      have E0 : Hid (Calls Tryz.prog 9 #[.agg l[k].cells.toArray, .int .i64 r] wr fun e w' => ∃ r : Int, e = .returned (.int .i64 r) ∧ -1048577 ≤ r ∧ r ≤ 1048576 ∧ (r < 0 ∨ l[k].x.Lim) ∧ Below wr.heap.size wr w') := szHd_any l[k].x _ _ r wr ((HA.out k hkl).on HB.out) hr0 hr1
      have HL2 : Hid (l[k].x.Lim → ∀ j (h : j < l.length), j < k + 1 → l[j].x.Lim) := fun hr j h hj => by
        by_cases e : j = k
        · subst e; exact hr
        · exact HL.out j h (by omega)
      have hknI : (k : Int) < (n : Int) := by omega
      have hc7 : l[k].cells.length = 7 := rfl
      generalize l[k].cells = cs at *
      generalize l[k].x = x at *
      clear HC HA HN HL hat
      go_wp2_with (refine wpList_load_mid rfl 26 (.tmp 20) rfl b (off + k * 7) rfl cs _ hrange Tryz.underlying26 rfl (by rw [hc7]; kernel_rfl) ?_)
      refine E0.out.mono ?_
      rintro e w1 ⟨r1, rfl, p0, p1, q1, hb1⟩
      have Q1 : Hid (r1 < 0 ∨ x.Lim) := q1
      have B1 : Hid (Below w.heap.size w w1) := HB.out.trans (hb1.mono HB.out.size)
      clear q1 hb1 E0 hrange HB
      by_cases n1 : r1 < 0
      · go_wp2
        go_ret
        exact ⟨-1, rfl, by omega, by omega, .inl (by omega), B1.out⟩
      · go_wp2
        go_roundw
        case rel => exact ⟨k + 1, _, by omega, by go_num, rfl, by omega, by omega, HL2.out (Q1.out.resolve_left (by omega)), B1.out⟩
        case measure => simp [intOf]; omega
    · have HF : Hid (HdsLim l) := ⟨by rw [← HN.out]; omega, fun j h => HL.out j h (by have := HN.out; omega)⟩
      clear HL HN HC HA
      go_wp2
      go_ret
      exact ⟨r, rfl, by omega, by omega, .inr HF.out, HB.out⟩
end Go.Proofs.YtpglcbidfghfkabGreatDoor

/-
  A row of heads that came in: its copy.
-/
namespace Go.Proofs.YtpglcbidfghfkabGreatDoor
open Go.RowKit Go.Lib
set_option linter.unusedVariables false
set_option linter.unusedSimpArgs false

theorem setCells_grown (b : Nat) : ∀ (vs : List Value) (o : Nat) (w w0 : World), w0.grownBy w (some b) → w0.grownBy (w.setCells b o vs) (some b)
  | [], o, w, w0, h => h
  | v :: r, o, w, w0, h => by
    rw [World.setCells]
    exact setCells_grown b r (o + 1) _ w0 (grown_cell h o v)
theorem OwnT.wide {w w' : World} {B g : Nat} {v : Value} {l : List ByteArray} (h : OwnT w B v l) (hg : w.grownBy w' (some g)) (hB : g < B) : OwnT w' B v l :=
  h.aside ⟨hg.os, hg.tape, hg.output, hg.size, fun i hi ho => hg.block i hi (by simp; omega)⟩ (B := g) (C := g + 1) (fun b hb => .inr (by have := (World.ownsRow.lt h b hb).1; omega))
/-- A made row of n heads' cells. -/
theorem make_heads (w : World) (n : Nat) (hn : n ≤ 1048576) : ∃ w1, (Instr.makeSlice 37 (.int .i64 (n : Int)) (.int .i64 (n : Int))).run Tryz.prog w = .ok (.slice (some ⟨w.heap.size, 0, none⟩) n n) w1 ∧ w1.there w.heap.size 0 (n * 7) ∧ Below w.heap.size w w1 ∧ w1.heap.size = w.heap.size + 1 := by
  obtain ⟨i, hi, hz⟩ : ∃ i, Tryz.prog.info? 36 = some i ∧ (i.zero.isSome = true ∧ i.size = 7 ∧ i.bytes ≤ 1000) := by
    have h : (Tryz.prog.info? 36).map (fun i => decide (i.zero.isSome = true ∧ i.size = 7 ∧ i.bytes ≤ 1000)) = some true := by kernel_rfl
    obtain ⟨i, hi, h2⟩ := Option.map_eq_some_iff.1 h
    exact ⟨i, hi, of_decide_eq_true h2⟩
  obtain ⟨z, hzz⟩ := Option.isSome_iff_exists.1 hz.1
  have hr := run_make (P := Tryz.prog) w 37 36 i z Tryz.underlying37 hi hzz .i64 .i64 (n : Int) (n : Int) (by omega) (Int.le_refl _) (by
    have h1 : (i.bytes : Int) * (n : Int) ≤ 1000 * 1048576 := Int.mul_le_mul (by omega) (by omega) (by omega) (by omega)
    omega) (by omega)
  simp only [Int.toNat_natCast, hz.2.1] at hr
  refine ⟨_, hr, fun j hj => ?_, (Below.refl _ _).alloc (Nat.le_refl _) _, by simp⟩
  have hg := heap_alloc_new w (.cells (madeCells z.cells (n * 7)) 36)
  refine ⟨?_, row_free hg _⟩
  rw [cell_of_row _ _ _ _ _ _ hg, Nat.zero_add, Array.getElem?_eq_getElem (by rw [size_madeCells]; exact hj)]
  rfl
/-- k heads are copied into the block g. -/
def HdsMid (w : World) (g n : Nat) (l : List Hv) (k : Nat) (X : World) : Prop :=
  ∃ l' : List Hv, l'.length = k ∧ l'.map Hv.x = (l.take k).map Hv.x ∧ (∀ j (hj : j < l'.length), l'[j].At X g (j * 7) ∧ OwnT X (g + 1) l'[j].e l'[j].x.el ∧ OwnT X (g + 1) l'[j].p l'[j].x.pl) ∧ X.there g 0 (n * 7) ∧ g < X.heap.size ∧ Below w.heap.size w X ∧ w.heap.size ≤ g
theorem HdsMid.put {w : World} {g n k : Nat} {l : List Hv} {X Y : World} {q : Hv} (h : HdsMid w g n l k X) (hk : k < l.length) (hkn : k < n) (hx : q.x = l[k].x) (hb : Below X.heap.size X Y) (h1 : OwnT Y X.heap.size q.e q.x.el) (h2 : OwnT Y X.heap.size q.p q.x.pl) :
    HdsMid w g n l (k + 1) (Y.setCells g (k * 7) q.cells) ∧ Y.there g (k * 7) 7 := by
  obtain ⟨l', e1, e2, hj', ht, hg, hbw, hwg⟩ := h
  have hgY : Y.heap[g]? = X.heap[g]? := hb.block g hg
  have htY : Y.there g 0 (n * 7) := fun j hj => by
    have := ht j hj
    simp only [World.cell?, World.frozen?, hgY] at this ⊢
    exact this
  have ht7 : Y.there g (k * 7) 7 := fun j hj => by
    have := htY (k * 7 + j) (by omega)
    rw [Nat.zero_add] at this
    exact this
  have hgr : Y.grownBy (Y.setCells g (k * 7) q.cells) (some g) := setCells_grown g _ _ _ _ (rd_refl _ _)
  have hsz := hb.size
  refine ⟨⟨l' ++ [q], by simp [e1], ?_, ?_, World.there_setCells htY _ _ _, Nat.lt_of_lt_of_le (by omega) hgr.size, below_own (hbw.trans (hb.mono hbw.size)) hgr hwg, hwg⟩, ht7⟩
  · rw [List.map_append, e2, List.take_succ_eq_append_getElem hk, List.map_append]
    simp [hx]
  · intro j hj
    by_cases hjk : j < k
    · have hjl : j < l'.length := by omega
      rw [List.getElem_append_left hjl]
      obtain ⟨a1, a2, a3⟩ := hj' j hjl
      refine ⟨?_, (a2.below hb (Nat.le_refl _)).wide hgr (by omega), (a3.below hb (Nat.le_refl _)).wide hgr (by omega)⟩
      exact World.rangeAt_setCells_apart (a1.same hgY).range g (k * 7) q.cells (.inr (.inl (by show j * 7 + 7 ≤ k * 7; omega)))
    · have ejk : j = l'.length := by simp at hj; omega
      subst ejk
      rw [List.getElem_append_right (Nat.le_refl _)]
      simp only [Nat.sub_self, List.getElem_cons_zero]
      refine ⟨?_, (h1.lower (by omega)).wide hgr (by omega), (h2.lower (by omega)).wide hgr (by omega)⟩
      rw [e1]
      exact World.rangeAt_setCells_same Y g (k * 7) q.cells ht7
/-- A row of heads that lies, with all that its heads have, from the block A on. -/
def HOwn (X : World) (A : Nat) (v : Value) (l : List Hv) : Prop :=
  (∃ g cap, v = .slice (some ⟨g, 0, none⟩) l.length cap ∧ l.length ≤ cap ∧ A ≤ g ∧ g < X.heap.size ∧ ∀ j (hj : j < l.length), l[j].At X g (j * 7)) ∧ ∀ j (hj : j < l.length), OwnT X A l[j].e l[j].x.el ∧ OwnT X A l[j].p l[j].x.pl
theorem HOwn.heads {X : World} {A : Nat} {v : Value} {l : List Hv} (h : HOwn X A v l) : Heads X X.heap.size v l := by
  obtain ⟨⟨g, cap, hv, hc, hA, hg, hat⟩, ho⟩ := h
  exact ⟨⟨_, cap, hv, hc, .inr ⟨g, 0, rfl, hg, fun j hj => by rw [Nat.zero_add]; exact hat j hj⟩⟩, fun j hj => ⟨(ho j hj).1.texts, (ho j hj).2.texts⟩⟩
theorem HOwn.below {X Y : World} {A : Nat} {v : Value} {l : List Hv} (h : HOwn X A v l) (hb : Below X.heap.size X Y) : HOwn Y A v l := by
  obtain ⟨⟨g, cap, hv, hc, hA, hg, hat⟩, ho⟩ := h
  exact ⟨⟨g, cap, hv, hc, hA, Nat.lt_of_lt_of_le hg hb.size, fun j hj => (hat j hj).same (hb.block g hg)⟩, fun j hj => ⟨(ho j hj).1.below hb (Nat.le_refl _), (ho j hj).2.below hb (Nat.le_refl _)⟩⟩
theorem HOwn.wide {X Y : World} {A b : Nat} {v : Value} {l : List Hv} (h : HOwn X A v l) (hg : X.grownBy Y (some b)) (hb : b < A) : HOwn Y A v l := by
  obtain ⟨⟨g, cap, hv, hc, hA, hgl, hat⟩, ho⟩ := h
  exact ⟨⟨g, cap, hv, hc, hA, Nat.lt_of_lt_of_le hgl hg.size, fun j hj => (hat j hj).same (hg.block g hgl (by simp; omega))⟩, fun j hj => ⟨(ho j hj).1.wide hg hb, (ho j hj).2.wide hg hb⟩⟩
theorem HOwn.lower {X : World} {A A' : Nat} {v : Value} {l : List Hv} (h : HOwn X A v l) (hA : A' ≤ A) : HOwn X A' v l := by
  obtain ⟨⟨g, cap, hv, hc, h1, hgl, hat⟩, ho⟩ := h
  exact ⟨⟨g, cap, hv, hc, Nat.le_trans hA h1, hgl, hat⟩, fun j hj => ⟨(ho j hj).1.lower hA, (ho j hj).2.lower hA⟩⟩
theorem HdsMid.done {w : World} {g n : Nat} {l : List Hv} {X : World} (h : HdsMid w g n l n X) (hn : n = l.length) : ∃ l', HOwn X g (.slice (some ⟨g, 0, none⟩) n n) l' ∧ l'.map Hv.x = l.map Hv.x ∧ Below w.heap.size w X := by
  obtain ⟨l', e1, e2, hj', ht, hg, hbw, hwg⟩ := h
  exact ⟨l', ⟨⟨g, n, by rw [e1], by omega, Nat.le_refl _, hg, fun j hj => (hj' j hj).1⟩, fun j hj => ⟨(hj' j hj).2.1.lower (by omega), (hj' j hj).2.2.lower (by omega)⟩⟩, by rw [e2, hn, List.take_length], hbw⟩

set_option maxHeartbeats 2000000 in
set_option maxRecDepth 10000 in
theorem toHeads_any (v : Value) (l : List Hv) (w : World) (h : Heads w w.heap.size v l) (hl : HdsLim l) :
    Calls Tryz.prog 36 #[v] w fun e w' => ∃ (v' : Value) (l' : List Hv), e = .returned v' ∧ HOwn w' w.heap.size v' l' ∧ l'.map Hv.x = l.map Hv.x ∧ Below w.heap.size w w' := by
  obtain ⟨w1, hmk, ht1, hb1, hz1⟩ := make_heads w l.length hl.1
  obtain ⟨⟨a, cap, rfl, hcap, hc⟩, hin⟩ := h
  have HC : Hid (l.length = 0 ∨ ∃ b off, a = some ⟨b, off, none⟩ ∧ b < w.heap.size ∧ ∀ j (hj : j < l.length), l[j].At w b (off + j * 7)) := hc
  have HI : Hid (∀ j (hj : j < l.length), l[j].x.In l[j].e l[j].p w w.heap.size) := hin
  have HL : Hid (∀ j (hj : j < l.length), l[j].x.Lim) := hl.2
  have H1 : Hid (HdsMid w w.heap.size l.length l 0 w1) := ⟨[], rfl, by simp, fun j hj => absurd hj (by simp), ht1, by omega, hb1, Nat.le_refl _⟩
  have hnl := hl.1
  clear hc hin hl ht1 hb1 hz1
  obtain ⟨n, hn⟩ : ∃ n, n = l.length := ⟨_, rfl⟩
  have HN : Hid (n = l.length) := hn
  rw [← hn] at hmk H1 hcap hnl ⊢
  obtain ⟨g, hg⟩ : ∃ g, g = w.heap.size := ⟨_, rfl⟩
  have HG : Hid (g = w.heap.size) := hg
  rw [← hg] at hmk H1
  clear hn hg hcap
  go_enter Tryz.func36, Tryz.ntmps36
  go_wp2
  go_loopw [4] (fun i wr => ∃ k : Nat, k ≤ n ∧ i = .int .i64 k ∧ HdsMid w g n l k wr) (fun i _ => n - (intOf i).toNat)
  case atStart => exact ⟨0, Nat.zero_le _, rfl, H1.out⟩
  case round =>
    clear hmk H1
    obtain ⟨k, hk, rfl, hmid⟩ := hrel
    have HM : Hid (HdsMid w g n l k wr) := hmid
    clear hmid
    by_cases hkn : k < n
    · have hkl : k < l.length := by rw [← HN.out]; exact hkn
      rcases HC.out with h0 | ⟨b, off, rfl, hB, hat⟩
      · omega
      have hbw : Below w.heap.size w wr := by
        obtain ⟨_, _, _, _, _, _, hbw, _⟩ := HM.out
        exact hbw
      have hrange : wr.rangeAt b (off + k * 7) l[k].cells := ((hat k hkl).same (hbw.block b hB)).range
      have E0 : Hid (Calls Tryz.prog 12 #[.agg l[k].cells.toArray] wr fun e w' => HeadOwn wr l[k].x.log l[k].x.size l[k].x.root l[k].x.time l[k].x.k l[k].x.el l[k].x.pl e w') := toHd_any l[k].x _ _ wr ((HI.out k hkl).on hbw) (HL.out k hkl)
      have HP : Hid (∀ (q : Hv) (Y : World), q.x = l[k].x → Below wr.heap.size wr Y → OwnT Y wr.heap.size q.e q.x.el → OwnT Y wr.heap.size q.p q.x.pl → HdsMid w g n l (k + 1) (Y.setCells g (k * 7) q.cells) ∧ Y.there g (k * 7) 7) := fun q Y hx hb h1 h2 => HM.out.put hkl hkn hx hb h1 h2
      have hknI : (k : Int) < (n : Int) := by omega
      have hc7 : l[k].cells.length = 7 := rfl
      generalize l[k].cells = cs at *
      generalize l[k].x = x at *
      clear HC HI HL HN HM HG hat hbw
      go_wp2_with (refine wpList_load_mid rfl 26 (.tmp 18) rfl b (off + k * 7) rfl cs _ hrange Tryz.underlying26 rfl (by rw [hc7]; kernel_rfl) ?_)
      refine E0.out.mono ?_
      rintro e w2 ⟨ve, vp, m, rfl, o1, o2, _, hm1, _, hb2⟩
      obtain ⟨a1, c1, rfl⟩ := o1.len
      obtain ⟨a2, c2, rfl⟩ := o2.len
      obtain ⟨P1, P2⟩ := HP.out ⟨x, .slice a1 x.el.length c1, .slice a2 x.pl.length c2⟩ w2 rfl hb2 o1 (o2.lower hm1)
      have HP1 : Hid (HdsMid w g n l (k + 1) (w2.setCells g (k * 7) [.string x.log, .int .i64 x.size, .string x.root, .int .i64 x.time, .int .i64 x.k, .slice a1 x.el.length c1, .slice a2 x.pl.length c2])) := P1
      clear P1 o1 o2 hm1 hb2 HP E0 hrange
      go_wp2_with (refine wpList_store_mid rfl 36 (.tmp 21) (.tmp 20) rfl g (k * 7) #[.string x.log, .int .i64 x.size, .string x.root, .int .i64 x.time, .int .i64 x.k, .slice a1 x.el.length c1, .slice a2 x.pl.length c2] ?_ ?_ P2 (by kernel_rfl) (by simp [Value.oneCell']) ?_; rfl; rfl; clear P2)
      go_roundw
      case rel => exact ⟨k + 1, by omega, by go_num, HP1.out⟩
      case measure => simp [intOf]; omega
    · have ek : k = n := by omega
      subst ek
      have HD : Hid (∃ l', HOwn wr w.heap.size (.slice (some ⟨g, 0, none⟩) k k) l' ∧ l'.map Hv.x = l.map Hv.x ∧ Below w.heap.size w wr) := by
        obtain ⟨l', h1, h2, h3⟩ := HM.out.done HN.out
        exact ⟨l', h1.lower (Nat.le_of_eq HG.out.symm), h2, h3⟩
      clear HM HN HC HI HL HG
      go_wp2
      go_ret
      obtain ⟨l', h1, h2, h3⟩ := HD.out
      exact ⟨_, l', rfl, h1, h2, h3⟩
end Go.Proofs.YtpglcbidfghfkabGreatDoor

/-
  A watch that came in: its size.
-/
namespace Go.Proofs.YtpglcbidfghfkabGreatDoor
open Go.RowKit Go.Lib
set_option linter.unusedVariables false
set_option linter.unusedSimpArgs false

theorem Wt.Arg.on {t : Wt} {l : List Hv} {v0 v1 v2 vp v3 v4 v5 v6 v7 : Value} {w w' : World} (h : t.Arg l v0 v1 v2 vp v3 v4 v5 v6 v7 w) (hb : Below w.heap.size w w') : t.Arg l v0 v1 v2 vp v3 v4 v5 v6 v7 w' :=
  ⟨h.1, h.2.1, h.2.2.1.on hb, h.2.2.2.1.on hb, ⟨h.2.2.2.2.1.1.on hb, h.2.2.2.2.1.2.1, fun j hj => (h.2.2.2.2.1.2.2 j hj).on hb⟩, h.2.2.2.2.2.1.on hb, h.2.2.2.2.2.2.1.on hb, h.2.2.2.2.2.2.2.on hb⟩
set_option maxHeartbeats 4000000 in
set_option maxRecDepth 10000 in
theorem szW_any (t : Wt) (l : List Hv) (v0 v1 v2 vp v3 v4 v5 v6 v7 : Value) (left : Int) (w : World) (h : t.Arg l v0 v1 v2 vp v3 v4 v5 v6 v7 w) (h0 : 0 ≤ left) (hle : left ≤ 1048576) :
    Calls Tryz.prog 8 #[.agg #[.string t.log, .string t.key, v0, .string t.h.log, .int .i64 t.h.size, .string t.h.root, .int .i64 t.h.time, .int .i64 t.h.k, v1, v2, vp, .bool t.found, .string t.a.log, .int .i64 t.a.size, .string t.a.root, .int .i64 t.a.time, .int .i64 t.a.k, v3, v4, .string t.b.log, .int .i64 t.b.size, .string t.b.root, .int .i64 t.b.time, .int .i64 t.b.k, v5, v6, v7], .int .i64 left] w fun e w' => ∃ r : Int, e = .returned (.int .i64 r) ∧ -1048577 ≤ r ∧ r ≤ 1048576 ∧ (r < 0 ∨ (t.Lens ∧ HdsLim l)) ∧ Below w.heap.size w w' := by
  obtain ⟨a0, c0, rfl, z0⟩ := id h.2.2.1.1
  obtain ⟨a1, c1, a2, c2, rfl, rfl⟩ := h.2.2.2.1.1.parts
  obtain ⟨⟨ap, cp, rfl, zp⟩, zq⟩ := id h.2.2.2.2.1.1
  obtain ⟨a3, c3, a4, c4, rfl, rfl⟩ := h.2.2.2.2.2.1.1.parts
  obtain ⟨a5, c5, a6, c6, rfl, rfl⟩ := h.2.2.2.2.2.2.1.1.parts
  obtain ⟨a7, c7, rfl, z7⟩ := id h.2.2.2.2.2.2.2.1
  clear z0 zp zq z7
  obtain ⟨W, hW⟩ : ∃ W, W = w.alloc (.cells #[.string t.log, .string t.key, .slice a0 t.en.length c0, .string t.h.log, .int .i64 t.h.size, .string t.h.root, .int .i64 t.h.time, .int .i64 t.h.k, .slice a1 t.h.el.length c1, .slice a2 t.h.pl.length c2, .slice ap l.length cp, .bool t.found, .string t.a.log, .int .i64 t.a.size, .string t.a.root, .int .i64 t.a.time, .int .i64 t.a.k, .slice a3 t.a.el.length c3, .slice a4 t.a.pl.length c4, .string t.b.log, .int .i64 t.b.size, .string t.b.root, .int .i64 t.b.time, .int .i64 t.b.k, .slice a5 t.b.el.length c5, .slice a6 t.b.pl.length c6, .slice a7 t.fl.length c7] 31) := ⟨_, rfl⟩
  have hbW : Below w.heap.size w W := by rw [hW]; exact (Below.refl _ _).alloc (Nat.le_refl _) _
  have hgW : W.heap[w.heap.size]? = some (.cells #[.string t.log, .string t.key, .slice a0 t.en.length c0, .string t.h.log, .int .i64 t.h.size, .string t.h.root, .int .i64 t.h.time, .int .i64 t.h.k, .slice a1 t.h.el.length c1, .slice a2 t.h.pl.length c2, .slice ap l.length cp, .bool t.found, .string t.a.log, .int .i64 t.a.size, .string t.a.root, .int .i64 t.a.time, .int .i64 t.a.k, .slice a3 t.a.el.length c3, .slice a4 t.a.pl.length c4, .string t.b.log, .int .i64 t.b.size, .string t.b.root, .int .i64 t.b.time, .int .i64 t.b.k, .slice a5 t.b.el.length c5, .slice a6 t.b.pl.length c6, .slice a7 t.fl.length c7] 31 (0, 0)) := by rw [hW]; exact heap_alloc_new w _
  have HW : Hid (W = w.alloc (.cells #[.string t.log, .string t.key, .slice a0 t.en.length c0, .string t.h.log, .int .i64 t.h.size, .string t.h.root, .int .i64 t.h.time, .int .i64 t.h.k, .slice a1 t.h.el.length c1, .slice a2 t.h.pl.length c2, .slice ap l.length cp, .bool t.found, .string t.a.log, .int .i64 t.a.size, .string t.a.root, .int .i64 t.a.time, .int .i64 t.a.k, .slice a3 t.a.el.length c3, .slice a4 t.a.pl.length c4, .string t.b.log, .int .i64 t.b.size, .string t.b.root, .int .i64 t.b.time, .int .i64 t.b.k, .slice a5 t.b.el.length c5, .slice a6 t.b.pl.length c6, .slice a7 t.fl.length c7] 31)) := hW
  have HR : Hid (∀ X, Below W.heap.size W X → X.heap[w.heap.size]? = some (.cells #[.string t.log, .string t.key, .slice a0 t.en.length c0, .string t.h.log, .int .i64 t.h.size, .string t.h.root, .int .i64 t.h.time, .int .i64 t.h.k, .slice a1 t.h.el.length c1, .slice a2 t.h.pl.length c2, .slice ap l.length cp, .bool t.found, .string t.a.log, .int .i64 t.a.size, .string t.a.root, .int .i64 t.a.time, .int .i64 t.a.k, .slice a3 t.a.el.length c3, .slice a4 t.a.pl.length c4, .string t.b.log, .int .i64 t.b.size, .string t.b.root, .int .i64 t.b.time, .int .i64 t.b.k, .slice a5 t.b.el.length c5, .slice a6 t.b.pl.length c6, .slice a7 t.fl.length c7] 31 (0, 0))) := fun X hb => (hb.block _ (Array.getElem?_eq_some_iff.1 hgW).1).trans hgW
  have h' := h.on hbW
  have G1 : Hid (∀ r : Int, 0 ≤ r → r ≤ 1048576 → Calls Tryz.prog 21 #[.slice a0 t.en.length c0, .int .i64 r] W fun e w' => SzAns t.en e ∧ w' = W) := fun r a b => sz_any _ t.en r W W.heap.size h'.2.2.1.1 h'.2.2.1.2.1 h'.2.2.1.2.2 a b
  have G2 : Hid (∀ r : Int, 0 ≤ r → r ≤ 1048576 → Calls Tryz.prog 9 #[.agg #[.string t.h.log, .int .i64 t.h.size, .string t.h.root, .int .i64 t.h.time, .int .i64 t.h.k, .slice a1 t.h.el.length c1, .slice a2 t.h.pl.length c2], .int .i64 r] W fun e w' => ∃ r : Int, e = .returned (.int .i64 r) ∧ -1048577 ≤ r ∧ r ≤ 1048576 ∧ (r < 0 ∨ t.h.Lim) ∧ Below W.heap.size W w') := fun r a b => szHd_any t.h _ _ r W h'.2.2.2.1 a b
  have G3 : Hid (∀ X, Below W.heap.size W X → ∀ r : Int, 0 ≤ r → r ≤ 1048576 → Calls Tryz.prog 34 #[.slice ap l.length cp, .int .i64 r] X fun e w' => ∃ r : Int, e = .returned (.int .i64 r) ∧ -1048577 ≤ r ∧ r ≤ 1048576 ∧ (r < 0 ∨ HdsLim l) ∧ Below X.heap.size X w') := fun X hb r a b => szHeads_any _ l r X (h'.on hb).2.2.2.2.1 a b
  have G4 : Hid (∀ X, Below W.heap.size W X → ∀ r : Int, 0 ≤ r → r ≤ 1048576 → Calls Tryz.prog 38 #[.agg #[.string t.a.log, .int .i64 t.a.size, .string t.a.root, .int .i64 t.a.time, .int .i64 t.a.k, .slice a3 t.a.el.length c3, .slice a4 t.a.pl.length c4, .string t.b.log, .int .i64 t.b.size, .string t.b.root, .int .i64 t.b.time, .int .i64 t.b.k, .slice a5 t.b.el.length c5, .slice a6 t.b.pl.length c6, .slice a7 t.fl.length c7], .int .i64 r] X fun e w' => ∃ r : Int, e = .returned (.int .i64 r) ∧ -1048577 ≤ r ∧ r ≤ 1048576 ∧ (r < 0 ∨ (t.a.Lim ∧ t.b.Lim ∧ t.fl.length ≤ 1048576)) ∧ Below X.heap.size X w') := fun X hb r a b => szFraud_any t.a t.b _ _ _ _ _ t.fl r X (h'.on hb).2.2.2.2.2.1 (h'.on hb).2.2.2.2.2.2.1 (h'.on hb).2.2.2.2.2.2.2 a b
  have H0 : Hid (Below w.heap.size w W) := hbW
  have B0 : Hid (Below W.heap.size W W) := Below.refl _ _
  have hlg := h.1
  have hky := h.2.1
  have r1 := HR.out _ B0.out
  have x0 : W.cell? ⟨w.heap.size, 0, none⟩ = some (.string t.log) := row_here r1 0 _ rfl
  have x1 : W.cell? ⟨w.heap.size, 1, none⟩ = some (.string t.key) := row_here r1 1 _ rfl
  have x2 : W.cell? ⟨w.heap.size, 2, none⟩ = some (.slice a0 t.en.length c0) := row_here r1 2 _ rfl
  clear r1 h h' hW hbW hgW
  by_cases hn1 : left - (t.log.size : Int) < 0
  · go_enter Tryz.func8, Tryz.ntmps8
    go_wp2
    rw [← HW.out]
    go_ret
    exact ⟨-1, rfl, by omega, by omega, .inl (by omega), H0.out⟩
  by_cases hn2 : left - (t.log.size : Int) - (t.key.size : Int) < 0
  · go_enter Tryz.func8, Tryz.ntmps8
    go_wp2
    rw [← HW.out]
    go_ret
    exact ⟨-1, rfl, by omega, by omega, .inl (by omega), H0.out⟩
  go_enter Tryz.func8, Tryz.ntmps8
  go_wp2_with fail
  rw [← HW.out]
  clear HW
  refine (G1.out _ (by omega) (by omega)).mono ?_
  rintro e w1 ⟨⟨r1, rfl, p0, p1, q1⟩, rfl⟩
  have Q1 : Hid (r1 < 0 ∨ t.en.length ≤ 1048576) := q1.imp id And.left
  clear q1 G1
  by_cases n1 : r1 < 0
  · go_wp2
    go_ret
    exact ⟨-1, rfl, by omega, by omega, .inl (by omega), H0.out⟩
  clear x0 x1 x2
  have e1 := HR.out _ B0.out
  have x3 : w1.cell? ⟨w.heap.size, 3, none⟩ = some (.string t.h.log) := row_here e1 3 _ rfl
  have x4 : w1.cell? ⟨w.heap.size, 4, none⟩ = some (.int .i64 t.h.size) := row_here e1 4 _ rfl
  have x5 : w1.cell? ⟨w.heap.size, 5, none⟩ = some (.string t.h.root) := row_here e1 5 _ rfl
  have x6 : w1.cell? ⟨w.heap.size, 6, none⟩ = some (.int .i64 t.h.time) := row_here e1 6 _ rfl
  have x7 : w1.cell? ⟨w.heap.size, 7, none⟩ = some (.int .i64 t.h.k) := row_here e1 7 _ rfl
  have x8 : w1.cell? ⟨w.heap.size, 8, none⟩ = some (.slice a1 t.h.el.length c1) := row_here e1 8 _ rfl
  have x9 : w1.cell? ⟨w.heap.size, 9, none⟩ = some (.slice a2 t.h.pl.length c2) := row_here e1 9 _ rfl
  clear e1
  go_wp2_with fail
  refine (G2.out _ (by omega) (by omega)).mono ?_
  rintro e w2 ⟨r2, rfl, p2, p3, q2, hb2⟩
  have Q2 : Hid (r2 < 0 ∨ t.h.Lim) := q2
  have B2 : Hid (Below w1.heap.size w1 w2) := hb2
  clear x3 x4 x5 x6 x7 x8 x9
  have e2 := HR.out _ B2.out
  have x10 : w2.cell? ⟨w.heap.size, 10, none⟩ = some (.slice ap l.length cp) := row_here e2 10 _ rfl
  clear q2 hb2 G2 e2
  by_cases n2 : r2 < 0
  · go_wp2
    go_ret
    exact ⟨-1, rfl, by omega, by omega, .inl (by omega), H0.out.trans (B2.out.mono H0.out.size)⟩
  go_wp2_with fail
  refine (G3.out _ B2.out _ (by omega) (by omega)).mono ?_
  rintro e w3 ⟨r3, rfl, p4, p5, q3, hb3⟩
  have Q3 : Hid (r3 < 0 ∨ HdsLim l) := q3
  have B3 : Hid (Below w1.heap.size w1 w3) := B2.out.trans (hb3.mono B2.out.size)
  clear x10
  have e3 := HR.out _ B3.out
  have x12 : w3.cell? ⟨w.heap.size, 12, none⟩ = some (.string t.a.log) := row_here e3 12 _ rfl
  have x13 : w3.cell? ⟨w.heap.size, 13, none⟩ = some (.int .i64 t.a.size) := row_here e3 13 _ rfl
  have x14 : w3.cell? ⟨w.heap.size, 14, none⟩ = some (.string t.a.root) := row_here e3 14 _ rfl
  have x15 : w3.cell? ⟨w.heap.size, 15, none⟩ = some (.int .i64 t.a.time) := row_here e3 15 _ rfl
  have x16 : w3.cell? ⟨w.heap.size, 16, none⟩ = some (.int .i64 t.a.k) := row_here e3 16 _ rfl
  have x17 : w3.cell? ⟨w.heap.size, 17, none⟩ = some (.slice a3 t.a.el.length c3) := row_here e3 17 _ rfl
  have x18 : w3.cell? ⟨w.heap.size, 18, none⟩ = some (.slice a4 t.a.pl.length c4) := row_here e3 18 _ rfl
  have x19 : w3.cell? ⟨w.heap.size, 19, none⟩ = some (.string t.b.log) := row_here e3 19 _ rfl
  have x20 : w3.cell? ⟨w.heap.size, 20, none⟩ = some (.int .i64 t.b.size) := row_here e3 20 _ rfl
  have x21 : w3.cell? ⟨w.heap.size, 21, none⟩ = some (.string t.b.root) := row_here e3 21 _ rfl
  have x22 : w3.cell? ⟨w.heap.size, 22, none⟩ = some (.int .i64 t.b.time) := row_here e3 22 _ rfl
  have x23 : w3.cell? ⟨w.heap.size, 23, none⟩ = some (.int .i64 t.b.k) := row_here e3 23 _ rfl
  have x24 : w3.cell? ⟨w.heap.size, 24, none⟩ = some (.slice a5 t.b.el.length c5) := row_here e3 24 _ rfl
  have x25 : w3.cell? ⟨w.heap.size, 25, none⟩ = some (.slice a6 t.b.pl.length c6) := row_here e3 25 _ rfl
  have x26 : w3.cell? ⟨w.heap.size, 26, none⟩ = some (.slice a7 t.fl.length c7) := row_here e3 26 _ rfl
  clear q3 hb3 G3 e3
  by_cases n3 : r3 < 0
  · go_wp2
    go_ret
    exact ⟨-1, rfl, by omega, by omega, .inl (by omega), H0.out.trans (B3.out.mono H0.out.size)⟩
  go_wp2_with fail
  refine (G4.out _ B3.out _ (by omega) (by omega)).mono ?_
  rintro e w4 ⟨r4, rfl, p6, p7, q4, hb4⟩
  have Q4 : Hid (r4 < 0 ∨ (t.a.Lim ∧ t.b.Lim ∧ t.fl.length ≤ 1048576)) := q4
  have B4 : Hid (Below w1.heap.size w1 w4) := B3.out.trans (hb4.mono B3.out.size)
  clear x12 x13 x14 x15 x16 x17 x18 x19 x20 x21 x22 x23 x24 x25 x26
  clear q4 hb4 G4
  by_cases n4 : r4 < 0
  · go_wp2
    go_ret
    exact ⟨-1, rfl, by omega, by omega, .inl (by omega), H0.out.trans (B4.out.mono H0.out.size)⟩
  · go_wp2
    go_ret
    obtain ⟨y1, y2, y3⟩ := Q4.out.resolve_left (by omega)
    exact ⟨r4, rfl, by omega, by omega, .inr ⟨⟨by omega, by omega, Q1.out.resolve_left (by omega), Q2.out.resolve_left (by omega), y1, y2, y3⟩, Q3.out.resolve_left (by omega)⟩, H0.out.trans (B4.out.mono H0.out.size)⟩
end Go.Proofs.YtpglcbidfghfkabGreatDoor

/-
  A watch that came in: its copy.
-/
namespace Go.Proofs.YtpglcbidfghfkabGreatDoor
open Go.RowKit Go.Lib
set_option linter.unusedVariables false
set_option linter.unusedSimpArgs false

/-- What is written into a row from the cell o on. -/
def putL : Array Value → Nat → List Value → Array Value
  | cs, _, [] => cs
  | cs, o, v :: r => putL (cs.setIfInBounds o v) (o + 1) r
theorem setCells_row {b : Nat} {t : TypeId} : ∀ (vs : List Value) (o : Nat) (cs : Array Value) (w : World), w.heap[b]? = some (.cells cs t (0, 0)) → (w.setCells b o vs).heap[b]? = some (.cells (putL cs o vs) t (0, 0))
  | [], o, cs, w, h => h
  | v :: r, o, cs, w, h => by
    rw [World.setCells]
    exact setCells_row r (o + 1) _ _ (heap_put h)
theorem setCells_row2 {b : Nat} {t : TypeId} {vs : List Value} {o : Nat} {cs cs' : Array Value} {w : World} (h : w.heap[b]? = some (.cells cs t (0, 0))) (e : putL cs o vs = cs') : (w.setCells b o vs).heap[b]? = some (.cells cs' t (0, 0)) := by
  rw [← e]
  exact setCells_row vs o cs w h
theorem there_row {w : World} {b o n : Nat} {cs : Array Value} {t : TypeId} (h : w.heap[b]? = some (.cells cs t (0, 0))) (hn : o + n ≤ cs.size) : w.there b o n := fun j hj =>
  ⟨by rw [cell_of_row w b (o + j) cs t (0, 0) h, Array.getElem?_eq_getElem (by omega)]; rfl, row_free h _⟩
/-- What lies in three blocks behind w, the last of which is written to. -/
theorem three_kept {w X Y : World} {r1 r2 r3 : Array Value} {t1 t2 t3 : TypeId} (h : (X.heap[w.heap.size]? = some (.cells r1 t1 (0, 0)) ∧ X.heap[w.heap.size + 1]? = some (.cells r2 t2 (0, 0)) ∧ X.heap[w.heap.size + 1 + 1]? = some (.cells r3 t3 (0, 0))) ∧ Below w.heap.size w X ∧ w.heap.size + 3 ≤ X.heap.size) (hb : Below X.heap.size X Y) :
    (Y.heap[w.heap.size]? = some (.cells r1 t1 (0, 0)) ∧ Y.heap[w.heap.size + 1]? = some (.cells r2 t2 (0, 0)) ∧ Y.heap[w.heap.size + 1 + 1]? = some (.cells r3 t3 (0, 0))) ∧ Below w.heap.size w Y ∧ w.heap.size + 3 ≤ Y.heap.size :=
  ⟨⟨(hb.block _ (by omega)).trans h.1.1, (hb.block _ (by omega)).trans h.1.2.1, (hb.block _ (by omega)).trans h.1.2.2⟩, h.2.1.trans (hb.mono h.2.1.size), Nat.le_trans h.2.2 hb.size⟩
theorem three_put {w X Y : World} {r1 r2 r3 r4 : Array Value} {t1 t2 t3 : TypeId} (h : (X.heap[w.heap.size]? = some (.cells r1 t1 (0, 0)) ∧ X.heap[w.heap.size + 1]? = some (.cells r2 t2 (0, 0)) ∧ X.heap[w.heap.size + 1 + 1]? = some (.cells r3 t3 (0, 0))) ∧ Below w.heap.size w X ∧ w.heap.size + 3 ≤ X.heap.size) (hg : X.grownBy Y (some (w.heap.size + 1 + 1))) (hr : Y.heap[w.heap.size + 1 + 1]? = some (.cells r4 t3 (0, 0))) :
    (Y.heap[w.heap.size]? = some (.cells r1 t1 (0, 0)) ∧ Y.heap[w.heap.size + 1]? = some (.cells r2 t2 (0, 0)) ∧ Y.heap[w.heap.size + 1 + 1]? = some (.cells r4 t3 (0, 0))) ∧ Below w.heap.size w Y ∧ w.heap.size + 3 ≤ Y.heap.size :=
  ⟨⟨(hg.block _ (by omega) (by simp; omega)).trans h.1.1, (hg.block _ (by omega) (by simp)).trans h.1.2.1, hr⟩, below_own h.2.1 hg (by omega), Nat.le_trans h.2.2 hg.size⟩

set_option maxHeartbeats 4000000 in
set_option maxRecDepth 10000 in
theorem toW_any (t : Wt) (l : List Hv) (v0 v1 v2 vp v3 v4 v5 v6 v7 : Value) (w : World) (hi : t.In v0 v1 v2 v3 v4 v5 v6 v7 w w.heap.size) (hh : Heads w w.heap.size vp l) (hf : t.Lens) (hl : HdsLim l) :
    Calls Tryz.prog 11 #[.agg #[.string t.log, .string t.key, v0, .string t.h.log, .int .i64 t.h.size, .string t.h.root, .int .i64 t.h.time, .int .i64 t.h.k, v1, v2, vp, .bool t.found, .string t.a.log, .int .i64 t.a.size, .string t.a.root, .int .i64 t.a.time, .int .i64 t.a.k, v3, v4, .string t.b.log, .int .i64 t.b.size, .string t.b.root, .int .i64 t.b.time, .int .i64 t.b.k, v5, v6, v7]] w fun e w' => ∃ (u0 u1 u2 up u3 u4 u5 u6 u7 : Value) (l' : List Hv), e = .returned (.agg #[.string t.log, .string t.key, u0, .string t.h.log, .int .i64 t.h.size, .string t.h.root, .int .i64 t.h.time, .int .i64 t.h.k, u1, u2, up, .bool t.found, .string t.a.log, .int .i64 t.a.size, .string t.a.root, .int .i64 t.a.time, .int .i64 t.a.k, u3, u4, .string t.b.log, .int .i64 t.b.size, .string t.b.root, .int .i64 t.b.time, .int .i64 t.b.k, u5, u6, u7]) ∧ t.In u0 u1 u2 u3 u4 u5 u6 u7 w' w'.heap.size ∧ Heads w' w'.heap.size up l' ∧ l'.map Hv.x = l.map Hv.x ∧ Below w.heap.size w w' := by
  obtain ⟨a0, c0, rfl, z0⟩ := id hi.1
  obtain ⟨a1, c1, a2, c2, rfl, rfl⟩ := hi.2.1.parts
  obtain ⟨⟨ap, cp, rfl, zp⟩, zq⟩ := id hh
  obtain ⟨a3, c3, a4, c4, rfl, rfl⟩ := hi.2.2.1.parts
  obtain ⟨a5, c5, a6, c6, rfl, rfl⟩ := hi.2.2.2.1.parts
  obtain ⟨a7, c7, rfl, z7⟩ := id hi.2.2.2.2
  clear z0 zp zq z7
  have zl : l.length ≤ 1048576 := hl.1
  obtain ⟨W, hW⟩ : ∃ W, W = ((w.alloc (.cells #[.string t.log, .string t.key, .slice a0 t.en.length c0, .string t.h.log, .int .i64 t.h.size, .string t.h.root, .int .i64 t.h.time, .int .i64 t.h.k, .slice a1 t.h.el.length c1, .slice a2 t.h.pl.length c2, .slice ap l.length cp, .bool t.found, .string t.a.log, .int .i64 t.a.size, .string t.a.root, .int .i64 t.a.time, .int .i64 t.a.k, .slice a3 t.a.el.length c3, .slice a4 t.a.pl.length c4, .string t.b.log, .int .i64 t.b.size, .string t.b.root, .int .i64 t.b.time, .int .i64 t.b.k, .slice a5 t.b.el.length c5, .slice a6 t.b.pl.length c6, .slice a7 t.fl.length c7] 31)).alloc (.cells #[.string ⟨#[]⟩, .string ⟨#[]⟩, .slice none 0 0, .string ⟨#[]⟩, .int .i64 0, .string ⟨#[]⟩, .int .i64 0, .int .i64 0, .slice none 0 0, .slice none 0 0, .slice none 0 0, .bool false, .string ⟨#[]⟩, .int .i64 0, .string ⟨#[]⟩, .int .i64 0, .int .i64 0, .slice none 0 0, .slice none 0 0, .string ⟨#[]⟩, .int .i64 0, .string ⟨#[]⟩, .int .i64 0, .int .i64 0, .slice none 0 0, .slice none 0 0, .slice none 0 0] 41)).alloc (.cells #[.string t.log, .string t.key, .slice none 0 0, .string ⟨#[]⟩, .int .i64 0, .string ⟨#[]⟩, .int .i64 0, .int .i64 0, .slice none 0 0, .slice none 0 0, .slice none 0 0, .bool false, .string ⟨#[]⟩, .int .i64 0, .string ⟨#[]⟩, .int .i64 0, .int .i64 0, .slice none 0 0, .slice none 0 0, .string ⟨#[]⟩, .int .i64 0, .string ⟨#[]⟩, .int .i64 0, .int .i64 0, .slice none 0 0, .slice none 0 0, .slice none 0 0] 41) := ⟨_, rfl⟩
  have hbW : Below w.heap.size w W := by rw [hW]; exact (((Below.refl _ _).alloc (Nat.le_refl _) _).alloc (by simp) _).alloc (by simp; omega) _
  have hzW : W.heap.size = w.heap.size + 3 := by rw [hW]; simp
  have H0 : Hid ((W.heap[w.heap.size]? = some (.cells #[.string t.log, .string t.key, .slice a0 t.en.length c0, .string t.h.log, .int .i64 t.h.size, .string t.h.root, .int .i64 t.h.time, .int .i64 t.h.k, .slice a1 t.h.el.length c1, .slice a2 t.h.pl.length c2, .slice ap l.length cp, .bool t.found, .string t.a.log, .int .i64 t.a.size, .string t.a.root, .int .i64 t.a.time, .int .i64 t.a.k, .slice a3 t.a.el.length c3, .slice a4 t.a.pl.length c4, .string t.b.log, .int .i64 t.b.size, .string t.b.root, .int .i64 t.b.time, .int .i64 t.b.k, .slice a5 t.b.el.length c5, .slice a6 t.b.pl.length c6, .slice a7 t.fl.length c7] 31 (0, 0)) ∧ W.heap[w.heap.size + 1]? = some (.cells #[.string ⟨#[]⟩, .string ⟨#[]⟩, .slice none 0 0, .string ⟨#[]⟩, .int .i64 0, .string ⟨#[]⟩, .int .i64 0, .int .i64 0, .slice none 0 0, .slice none 0 0, .slice none 0 0, .bool false, .string ⟨#[]⟩, .int .i64 0, .string ⟨#[]⟩, .int .i64 0, .int .i64 0, .slice none 0 0, .slice none 0 0, .string ⟨#[]⟩, .int .i64 0, .string ⟨#[]⟩, .int .i64 0, .int .i64 0, .slice none 0 0, .slice none 0 0, .slice none 0 0] 41 (0, 0)) ∧ W.heap[w.heap.size + 1 + 1]? = some (.cells #[.string t.log, .string t.key, .slice none 0 0, .string ⟨#[]⟩, .int .i64 0, .string ⟨#[]⟩, .int .i64 0, .int .i64 0, .slice none 0 0, .slice none 0 0, .slice none 0 0, .bool false, .string ⟨#[]⟩, .int .i64 0, .string ⟨#[]⟩, .int .i64 0, .int .i64 0, .slice none 0 0, .slice none 0 0, .string ⟨#[]⟩, .int .i64 0, .string ⟨#[]⟩, .int .i64 0, .int .i64 0, .slice none 0 0, .slice none 0 0, .slice none 0 0] 41 (0, 0))) ∧ Below w.heap.size w W ∧ w.heap.size + 3 ≤ W.heap.size) := by
    refine ⟨⟨?_, ?_, ?_⟩, hbW, by omega⟩
    · rw [hW]; exact (heap_alloc_old _ _ (by simp; omega)).trans (heap_alloc2_old w _ _)
    · rw [hW]; exact (heap_alloc_old _ _ (by simp)).trans (heap_alloc2_new w _ _)
    · rw [hW]
      have := heap_alloc_new ((w.alloc (.cells #[.string t.log, .string t.key, .slice a0 t.en.length c0, .string t.h.log, .int .i64 t.h.size, .string t.h.root, .int .i64 t.h.time, .int .i64 t.h.k, .slice a1 t.h.el.length c1, .slice a2 t.h.pl.length c2, .slice ap l.length cp, .bool t.found, .string t.a.log, .int .i64 t.a.size, .string t.a.root, .int .i64 t.a.time, .int .i64 t.a.k, .slice a3 t.a.el.length c3, .slice a4 t.a.pl.length c4, .string t.b.log, .int .i64 t.b.size, .string t.b.root, .int .i64 t.b.time, .int .i64 t.b.k, .slice a5 t.b.el.length c5, .slice a6 t.b.pl.length c6, .slice a7 t.fl.length c7] 31)).alloc (.cells #[.string ⟨#[]⟩, .string ⟨#[]⟩, .slice none 0 0, .string ⟨#[]⟩, .int .i64 0, .string ⟨#[]⟩, .int .i64 0, .int .i64 0, .slice none 0 0, .slice none 0 0, .slice none 0 0, .bool false, .string ⟨#[]⟩, .int .i64 0, .string ⟨#[]⟩, .int .i64 0, .int .i64 0, .slice none 0 0, .slice none 0 0, .string ⟨#[]⟩, .int .i64 0, .string ⟨#[]⟩, .int .i64 0, .int .i64 0, .slice none 0 0, .slice none 0 0, .slice none 0 0] 41)) (.cells #[.string t.log, .string t.key, .slice none 0 0, .string ⟨#[]⟩, .int .i64 0, .string ⟨#[]⟩, .int .i64 0, .int .i64 0, .slice none 0 0, .slice none 0 0, .slice none 0 0, .bool false, .string ⟨#[]⟩, .int .i64 0, .string ⟨#[]⟩, .int .i64 0, .int .i64 0, .slice none 0 0, .slice none 0 0, .string ⟨#[]⟩, .int .i64 0, .string ⟨#[]⟩, .int .i64 0, .int .i64 0, .slice none 0 0, .slice none 0 0, .slice none 0 0] 41)
      simpa using this
  have G1 : Hid (∀ X, Below w.heap.size w X → Calls Tryz.prog 23 #[.slice a0 t.en.length c0] X fun e w' => ∃ v', e = .returned v' ∧ OwnS w' X.heap.size v' t.en ∧ Below X.heap.size X w') := fun X hb => toTexts_any _ t.en X (hi.1.on hb) hf.2.2.1
  have G2 : Hid (∀ X, Below w.heap.size w X → Calls Tryz.prog 12 #[.agg #[.string t.h.log, .int .i64 t.h.size, .string t.h.root, .int .i64 t.h.time, .int .i64 t.h.k, .slice a1 t.h.el.length c1, .slice a2 t.h.pl.length c2]] X fun e w' => HeadOwn X t.h.log t.h.size t.h.root t.h.time t.h.k t.h.el t.h.pl e w') := fun X hb => toHd_any t.h _ _ X (hi.2.1.on hb) hf.2.2.2.1
  have G3 : Hid (∀ X, Below w.heap.size w X → Calls Tryz.prog 36 #[.slice ap l.length cp] X fun e w' => ∃ (v' : Value) (l' : List Hv), e = .returned v' ∧ HOwn w' X.heap.size v' l' ∧ l'.map Hv.x = l.map Hv.x ∧ Below X.heap.size X w') := fun X hb => toHeads_any _ l X (hh.on hb) hl
  have G4 : Hid (∀ X, Below w.heap.size w X → Calls Tryz.prog 43 #[.agg #[.string t.a.log, .int .i64 t.a.size, .string t.a.root, .int .i64 t.a.time, .int .i64 t.a.k, .slice a3 t.a.el.length c3, .slice a4 t.a.pl.length c4, .string t.b.log, .int .i64 t.b.size, .string t.b.root, .int .i64 t.b.time, .int .i64 t.b.k, .slice a5 t.b.el.length c5, .slice a6 t.b.pl.length c6, .slice a7 t.fl.length c7]] X fun e w' => ∃ a5 c5 b5 d5 a6 c6 b6 d6 a7 c7, e = .returned (.agg #[.string t.a.log, .int .i64 t.a.size, .string t.a.root, .int .i64 t.a.time, .int .i64 t.a.k, .slice a5 t.a.el.length c5, .slice b5 t.a.pl.length d5, .string t.b.log, .int .i64 t.b.size, .string t.b.root, .int .i64 t.b.time, .int .i64 t.b.k, .slice a6 t.b.el.length c6, .slice b6 t.b.pl.length d6, .slice a7 t.fl.length c7]) ∧ (OwnT w' X.heap.size (.slice a5 t.a.el.length c5) t.a.el ∧ OwnT w' X.heap.size (.slice b5 t.a.pl.length d5) t.a.pl) ∧ (OwnT w' X.heap.size (.slice a6 t.b.el.length c6) t.b.el ∧ OwnT w' X.heap.size (.slice b6 t.b.pl.length d6) t.b.pl) ∧ OwnT w' X.heap.size (.slice a7 t.fl.length c7) t.fl ∧ Below X.heap.size X w') := fun X hb => (toFraud_own t.a t.b _ _ _ _ _ t.fl X (hi.2.2.1.on hb) (hi.2.2.2.1.on hb) (hi.2.2.2.2.on hb) hf.2.2.2.2.1 hf.2.2.2.2.2.1 hf.2.2.2.2.2.2).mono fun e w' h => h
  have HW : Hid (W = ((w.alloc (.cells #[.string t.log, .string t.key, .slice a0 t.en.length c0, .string t.h.log, .int .i64 t.h.size, .string t.h.root, .int .i64 t.h.time, .int .i64 t.h.k, .slice a1 t.h.el.length c1, .slice a2 t.h.pl.length c2, .slice ap l.length cp, .bool t.found, .string t.a.log, .int .i64 t.a.size, .string t.a.root, .int .i64 t.a.time, .int .i64 t.a.k, .slice a3 t.a.el.length c3, .slice a4 t.a.pl.length c4, .string t.b.log, .int .i64 t.b.size, .string t.b.root, .int .i64 t.b.time, .int .i64 t.b.k, .slice a5 t.b.el.length c5, .slice a6 t.b.pl.length c6, .slice a7 t.fl.length c7] 31)).alloc (.cells #[.string ⟨#[]⟩, .string ⟨#[]⟩, .slice none 0 0, .string ⟨#[]⟩, .int .i64 0, .string ⟨#[]⟩, .int .i64 0, .int .i64 0, .slice none 0 0, .slice none 0 0, .slice none 0 0, .bool false, .string ⟨#[]⟩, .int .i64 0, .string ⟨#[]⟩, .int .i64 0, .int .i64 0, .slice none 0 0, .slice none 0 0, .string ⟨#[]⟩, .int .i64 0, .string ⟨#[]⟩, .int .i64 0, .int .i64 0, .slice none 0 0, .slice none 0 0, .slice none 0 0] 41)).alloc (.cells #[.string t.log, .string t.key, .slice none 0 0, .string ⟨#[]⟩, .int .i64 0, .string ⟨#[]⟩, .int .i64 0, .int .i64 0, .slice none 0 0, .slice none 0 0, .slice none 0 0, .bool false, .string ⟨#[]⟩, .int .i64 0, .string ⟨#[]⟩, .int .i64 0, .int .i64 0, .slice none 0 0, .slice none 0 0, .string ⟨#[]⟩, .int .i64 0, .string ⟨#[]⟩, .int .i64 0, .int .i64 0, .slice none 0 0, .slice none 0 0, .slice none 0 0] 41)) := hW
  have HEN : Hid (t.en.length ≤ 1048576) := hf.2.2.1
  clear hi hh hf hl hW hbW hzW zl
  go_enter Tryz.func11, Tryz.ntmps11
  go_wp2_with fail
  rw [← HW.out]
  clear HW
  refine (G1.out _ H0.out.2.1).mono ?_
  rintro e w1 ⟨v', rfl, hos, hb⟩
  have ho := ((hos.own HEN.out).1).lower H0.out.2.2
  obtain ⟨b0, d0, rfl⟩ := ho.len
  have hk := three_kept H0.out hb
  have q3 : w1.cell? ⟨w.heap.size, 3, none⟩ = some (.string t.h.log) := row_here hk.1.1 3 _ rfl
  have q4 : w1.cell? ⟨w.heap.size, 4, none⟩ = some (.int .i64 t.h.size) := row_here hk.1.1 4 _ rfl
  have q5 : w1.cell? ⟨w.heap.size, 5, none⟩ = some (.string t.h.root) := row_here hk.1.1 5 _ rfl
  have q6 : w1.cell? ⟨w.heap.size, 6, none⟩ = some (.int .i64 t.h.time) := row_here hk.1.1 6 _ rfl
  have q7 : w1.cell? ⟨w.heap.size, 7, none⟩ = some (.int .i64 t.h.k) := row_here hk.1.1 7 _ rfl
  have q8 : w1.cell? ⟨w.heap.size, 8, none⟩ = some (.slice a1 t.h.el.length c1) := row_here hk.1.1 8 _ rfl
  have q9 : w1.cell? ⟨w.heap.size, 9, none⟩ = some (.slice a2 t.h.pl.length c2) := row_here hk.1.1 9 _ rfl
  have u2 := row_here hk.1.2.2 2 _ rfl
  have f2 := row_free hk.1.2.2 2
  obtain ⟨w2, hw2⟩ : ∃ w2, w2 = w1.setCell ⟨w.heap.size + 1 + 1, 2, none⟩ (.slice b0 t.en.length d0) := ⟨_, rfl⟩
  have hgr : w1.grownBy w2 (some (w.heap.size + 1 + 1)) := by rw [hw2]; exact grown_cell (rd_refl _ _) _ _
  have H2 : Hid (((w2.heap[w.heap.size]? = some (.cells #[.string t.log, .string t.key, .slice a0 t.en.length c0, .string t.h.log, .int .i64 t.h.size, .string t.h.root, .int .i64 t.h.time, .int .i64 t.h.k, .slice a1 t.h.el.length c1, .slice a2 t.h.pl.length c2, .slice ap l.length cp, .bool t.found, .string t.a.log, .int .i64 t.a.size, .string t.a.root, .int .i64 t.a.time, .int .i64 t.a.k, .slice a3 t.a.el.length c3, .slice a4 t.a.pl.length c4, .string t.b.log, .int .i64 t.b.size, .string t.b.root, .int .i64 t.b.time, .int .i64 t.b.k, .slice a5 t.b.el.length c5, .slice a6 t.b.pl.length c6, .slice a7 t.fl.length c7] 31 (0, 0)) ∧ w2.heap[w.heap.size + 1]? = some (.cells #[.string ⟨#[]⟩, .string ⟨#[]⟩, .slice none 0 0, .string ⟨#[]⟩, .int .i64 0, .string ⟨#[]⟩, .int .i64 0, .int .i64 0, .slice none 0 0, .slice none 0 0, .slice none 0 0, .bool false, .string ⟨#[]⟩, .int .i64 0, .string ⟨#[]⟩, .int .i64 0, .int .i64 0, .slice none 0 0, .slice none 0 0, .string ⟨#[]⟩, .int .i64 0, .string ⟨#[]⟩, .int .i64 0, .int .i64 0, .slice none 0 0, .slice none 0 0, .slice none 0 0] 41 (0, 0)) ∧ w2.heap[w.heap.size + 1 + 1]? = some (.cells #[.string t.log, .string t.key, .slice b0 t.en.length d0, .string ⟨#[]⟩, .int .i64 0, .string ⟨#[]⟩, .int .i64 0, .int .i64 0, .slice none 0 0, .slice none 0 0, .slice none 0 0, .bool false, .string ⟨#[]⟩, .int .i64 0, .string ⟨#[]⟩, .int .i64 0, .int .i64 0, .slice none 0 0, .slice none 0 0, .string ⟨#[]⟩, .int .i64 0, .string ⟨#[]⟩, .int .i64 0, .int .i64 0, .slice none 0 0, .slice none 0 0, .slice none 0 0] 41 (0, 0))) ∧ Below w.heap.size w w2 ∧ w.heap.size + 3 ≤ w2.heap.size) ∧ OwnT w2 (w.heap.size + 3) (.slice b0 t.en.length d0) t.en) := ⟨three_put hk hgr (by rw [hw2]; exact heap_put2 #[.string t.log, .string t.key, .slice b0 t.en.length d0, .string ⟨#[]⟩, .int .i64 0, .string ⟨#[]⟩, .int .i64 0, .int .i64 0, .slice none 0 0, .slice none 0 0, .slice none 0 0, .bool false, .string ⟨#[]⟩, .int .i64 0, .string ⟨#[]⟩, .int .i64 0, .int .i64 0, .slice none 0 0, .slice none 0 0, .string ⟨#[]⟩, .int .i64 0, .string ⟨#[]⟩, .int .i64 0, .int .i64 0, .slice none 0 0, .slice none 0 0, .slice none 0 0] hk.1.2.2 rfl), ho.wide hgr (by omega)⟩
  have HW2 : Hid (w2 = w1.setCell ⟨w.heap.size + 1 + 1, 2, none⟩ (.slice b0 t.en.length d0)) := hw2
  clear hos ho hb hk hw2 hgr H0 G1
  go_wp2_with fail
  rw [← HW2.out]
  clear HW2 q3 q4 q5 q6 q7 q8 q9 u2 f2
  refine (G2.out _ H2.out.1.2.1).mono ?_
  rintro e w3 ⟨ue, uq, n, rfl, o1, o2, _, hn, _, hb⟩
  obtain ⟨b1, d1, rfl⟩ := o1.len
  obtain ⟨b2, d2, rfl⟩ := o2.len
  have hk := three_kept H2.out.1 hb
  obtain ⟨w4, hw4⟩ : ∃ w4, w4 = w3.setCells (w.heap.size + 1 + 1) 3 [.string t.h.log, .int .i64 t.h.size, .string t.h.root, .int .i64 t.h.time, .int .i64 t.h.k, .slice b1 t.h.el.length d1, .slice b2 t.h.pl.length d2] := ⟨_, rfl⟩
  have hgr : w3.grownBy w4 (some (w.heap.size + 1 + 1)) := by rw [hw4]; exact setCells_grown _ _ _ _ _ (rd_refl _ _)
  have hsz := H2.out.1.2.2
  have H4 : Hid (((w4.heap[w.heap.size]? = some (.cells #[.string t.log, .string t.key, .slice a0 t.en.length c0, .string t.h.log, .int .i64 t.h.size, .string t.h.root, .int .i64 t.h.time, .int .i64 t.h.k, .slice a1 t.h.el.length c1, .slice a2 t.h.pl.length c2, .slice ap l.length cp, .bool t.found, .string t.a.log, .int .i64 t.a.size, .string t.a.root, .int .i64 t.a.time, .int .i64 t.a.k, .slice a3 t.a.el.length c3, .slice a4 t.a.pl.length c4, .string t.b.log, .int .i64 t.b.size, .string t.b.root, .int .i64 t.b.time, .int .i64 t.b.k, .slice a5 t.b.el.length c5, .slice a6 t.b.pl.length c6, .slice a7 t.fl.length c7] 31 (0, 0)) ∧ w4.heap[w.heap.size + 1]? = some (.cells #[.string ⟨#[]⟩, .string ⟨#[]⟩, .slice none 0 0, .string ⟨#[]⟩, .int .i64 0, .string ⟨#[]⟩, .int .i64 0, .int .i64 0, .slice none 0 0, .slice none 0 0, .slice none 0 0, .bool false, .string ⟨#[]⟩, .int .i64 0, .string ⟨#[]⟩, .int .i64 0, .int .i64 0, .slice none 0 0, .slice none 0 0, .string ⟨#[]⟩, .int .i64 0, .string ⟨#[]⟩, .int .i64 0, .int .i64 0, .slice none 0 0, .slice none 0 0, .slice none 0 0] 41 (0, 0)) ∧ w4.heap[w.heap.size + 1 + 1]? = some (.cells #[.string t.log, .string t.key, .slice b0 t.en.length d0, .string t.h.log, .int .i64 t.h.size, .string t.h.root, .int .i64 t.h.time, .int .i64 t.h.k, .slice b1 t.h.el.length d1, .slice b2 t.h.pl.length d2, .slice none 0 0, .bool false, .string ⟨#[]⟩, .int .i64 0, .string ⟨#[]⟩, .int .i64 0, .int .i64 0, .slice none 0 0, .slice none 0 0, .string ⟨#[]⟩, .int .i64 0, .string ⟨#[]⟩, .int .i64 0, .int .i64 0, .slice none 0 0, .slice none 0 0, .slice none 0 0] 41 (0, 0))) ∧ Below w.heap.size w w4 ∧ w.heap.size + 3 ≤ w4.heap.size) ∧ OwnT w4 (w.heap.size + 3) (.slice b0 t.en.length d0) t.en ∧ (OwnT w4 (w.heap.size + 3) (.slice b1 t.h.el.length d1) t.h.el ∧ OwnT w4 (w.heap.size + 3) (.slice b2 t.h.pl.length d2) t.h.pl)) := ⟨three_put hk hgr (by rw [hw4]; exact setCells_row2 hk.1.2.2 (by simp only [putL, List.setIfInBounds_toArray, List.set_cons_zero, List.set_cons_succ])), (H2.out.2.below hb (Nat.le_refl _)).wide hgr (by omega), ((o1.lower hsz).wide hgr (by omega)), ((o2.lower (by omega)).wide hgr (by omega))⟩
  have th : w3.there (w.heap.size + 1 + 1) 3 7 := there_row hk.1.2.2 (by simp)
  have HW4 : Hid (w4 = w3.setCells (w.heap.size + 1 + 1) 3 [.string t.h.log, .int .i64 t.h.size, .string t.h.root, .int .i64 t.h.time, .int .i64 t.h.k, .slice b1 t.h.el.length d1, .slice b2 t.h.pl.length d2]) := hw4
  have r4 := H4.out.1.1.1
  have q10 : w4.cell? ⟨w.heap.size, 10, none⟩ = some (.slice ap l.length cp) := row_here r4 10 _ rfl
  clear o1 o2 hn hb hk hw4 hgr hsz H2 r4 G2
  go_wp2_with (refine wpList_store_mid rfl 36 (.tmp 17) (.tmp 16) rfl (w.heap.size + 1 + 1) 3 #[.string t.h.log, .int .i64 t.h.size, .string t.h.root, .int .i64 t.h.time, .int .i64 t.h.k, .slice b1 t.h.el.length d1, .slice b2 t.h.pl.length d2] ?_ ?_ th (by kernel_rfl) (by simp [Value.oneCell']) ?_; rfl; rfl; rw [← HW4.out]; clear th)
  clear HW4 q10
  refine (G3.out _ H4.out.1.2.1).mono ?_
  rintro e w5 ⟨v', l', rfl, ho, hmap, hb⟩
  obtain ⟨bp, lp, dp, rfl⟩ : ∃ a n c, v' = .slice a n c := by
    obtain ⟨⟨g, cap, hv, _⟩, _⟩ := ho
    exact ⟨_, _, _, hv⟩
  have hk := three_kept H4.out.1 hb
  have q11 : w5.cell? ⟨w.heap.size, 11, none⟩ = some (.bool t.found) := row_here hk.1.1 11 _ rfl
  have q12 : w5.cell? ⟨w.heap.size, 12, none⟩ = some (.string t.a.log) := row_here hk.1.1 12 _ rfl
  have q13 : w5.cell? ⟨w.heap.size, 13, none⟩ = some (.int .i64 t.a.size) := row_here hk.1.1 13 _ rfl
  have q14 : w5.cell? ⟨w.heap.size, 14, none⟩ = some (.string t.a.root) := row_here hk.1.1 14 _ rfl
  have q15 : w5.cell? ⟨w.heap.size, 15, none⟩ = some (.int .i64 t.a.time) := row_here hk.1.1 15 _ rfl
  have q16 : w5.cell? ⟨w.heap.size, 16, none⟩ = some (.int .i64 t.a.k) := row_here hk.1.1 16 _ rfl
  have q17 : w5.cell? ⟨w.heap.size, 17, none⟩ = some (.slice a3 t.a.el.length c3) := row_here hk.1.1 17 _ rfl
  have q18 : w5.cell? ⟨w.heap.size, 18, none⟩ = some (.slice a4 t.a.pl.length c4) := row_here hk.1.1 18 _ rfl
  have q19 : w5.cell? ⟨w.heap.size, 19, none⟩ = some (.string t.b.log) := row_here hk.1.1 19 _ rfl
  have q20 : w5.cell? ⟨w.heap.size, 20, none⟩ = some (.int .i64 t.b.size) := row_here hk.1.1 20 _ rfl
  have q21 : w5.cell? ⟨w.heap.size, 21, none⟩ = some (.string t.b.root) := row_here hk.1.1 21 _ rfl
  have q22 : w5.cell? ⟨w.heap.size, 22, none⟩ = some (.int .i64 t.b.time) := row_here hk.1.1 22 _ rfl
  have q23 : w5.cell? ⟨w.heap.size, 23, none⟩ = some (.int .i64 t.b.k) := row_here hk.1.1 23 _ rfl
  have q24 : w5.cell? ⟨w.heap.size, 24, none⟩ = some (.slice a5 t.b.el.length c5) := row_here hk.1.1 24 _ rfl
  have q25 : w5.cell? ⟨w.heap.size, 25, none⟩ = some (.slice a6 t.b.pl.length c6) := row_here hk.1.1 25 _ rfl
  have q26 : w5.cell? ⟨w.heap.size, 26, none⟩ = some (.slice a7 t.fl.length c7) := row_here hk.1.1 26 _ rfl
  have u10 := row_here hk.1.2.2 10 _ rfl
  have u11 := row_here hk.1.2.2 11 _ rfl
  have f10 := row_free hk.1.2.2 10
  have f11 := row_free hk.1.2.2 11
  obtain ⟨w6, hw6⟩ : ∃ w6, w6 = (w5.setCell ⟨w.heap.size + 1 + 1, 10, none⟩ (.slice bp lp dp)).setCell ⟨w.heap.size + 1 + 1, 11, none⟩ (.bool t.found) := ⟨_, rfl⟩
  have hgr : w5.grownBy w6 (some (w.heap.size + 1 + 1)) := by rw [hw6]; exact grown_cell (grown_cell (rd_refl _ _) _ _) _ _
  have hsz := H4.out.1.2.2
  have H6 : Hid (((w6.heap[w.heap.size]? = some (.cells #[.string t.log, .string t.key, .slice a0 t.en.length c0, .string t.h.log, .int .i64 t.h.size, .string t.h.root, .int .i64 t.h.time, .int .i64 t.h.k, .slice a1 t.h.el.length c1, .slice a2 t.h.pl.length c2, .slice ap l.length cp, .bool t.found, .string t.a.log, .int .i64 t.a.size, .string t.a.root, .int .i64 t.a.time, .int .i64 t.a.k, .slice a3 t.a.el.length c3, .slice a4 t.a.pl.length c4, .string t.b.log, .int .i64 t.b.size, .string t.b.root, .int .i64 t.b.time, .int .i64 t.b.k, .slice a5 t.b.el.length c5, .slice a6 t.b.pl.length c6, .slice a7 t.fl.length c7] 31 (0, 0)) ∧ w6.heap[w.heap.size + 1]? = some (.cells #[.string ⟨#[]⟩, .string ⟨#[]⟩, .slice none 0 0, .string ⟨#[]⟩, .int .i64 0, .string ⟨#[]⟩, .int .i64 0, .int .i64 0, .slice none 0 0, .slice none 0 0, .slice none 0 0, .bool false, .string ⟨#[]⟩, .int .i64 0, .string ⟨#[]⟩, .int .i64 0, .int .i64 0, .slice none 0 0, .slice none 0 0, .string ⟨#[]⟩, .int .i64 0, .string ⟨#[]⟩, .int .i64 0, .int .i64 0, .slice none 0 0, .slice none 0 0, .slice none 0 0] 41 (0, 0)) ∧ w6.heap[w.heap.size + 1 + 1]? = some (.cells #[.string t.log, .string t.key, .slice b0 t.en.length d0, .string t.h.log, .int .i64 t.h.size, .string t.h.root, .int .i64 t.h.time, .int .i64 t.h.k, .slice b1 t.h.el.length d1, .slice b2 t.h.pl.length d2, .slice bp lp dp, .bool t.found, .string ⟨#[]⟩, .int .i64 0, .string ⟨#[]⟩, .int .i64 0, .int .i64 0, .slice none 0 0, .slice none 0 0, .string ⟨#[]⟩, .int .i64 0, .string ⟨#[]⟩, .int .i64 0, .int .i64 0, .slice none 0 0, .slice none 0 0, .slice none 0 0] 41 (0, 0))) ∧ Below w.heap.size w w6 ∧ w.heap.size + 3 ≤ w6.heap.size) ∧ OwnT w6 (w.heap.size + 3) (.slice b0 t.en.length d0) t.en ∧ (OwnT w6 (w.heap.size + 3) (.slice b1 t.h.el.length d1) t.h.el ∧ OwnT w6 (w.heap.size + 3) (.slice b2 t.h.pl.length d2) t.h.pl) ∧ HOwn w6 (w.heap.size + 3) (.slice bp lp dp) l' ∧ l'.map Hv.x = l.map Hv.x) := ⟨three_put hk hgr (by rw [hw6]; exact heap_put2 #[.string t.log, .string t.key, .slice b0 t.en.length d0, .string t.h.log, .int .i64 t.h.size, .string t.h.root, .int .i64 t.h.time, .int .i64 t.h.k, .slice b1 t.h.el.length d1, .slice b2 t.h.pl.length d2, .slice bp lp dp, .bool t.found, .string ⟨#[]⟩, .int .i64 0, .string ⟨#[]⟩, .int .i64 0, .int .i64 0, .slice none 0 0, .slice none 0 0, .string ⟨#[]⟩, .int .i64 0, .string ⟨#[]⟩, .int .i64 0, .int .i64 0, .slice none 0 0, .slice none 0 0, .slice none 0 0] (heap_put2 #[.string t.log, .string t.key, .slice b0 t.en.length d0, .string t.h.log, .int .i64 t.h.size, .string t.h.root, .int .i64 t.h.time, .int .i64 t.h.k, .slice b1 t.h.el.length d1, .slice b2 t.h.pl.length d2, .slice bp lp dp, .bool false, .string ⟨#[]⟩, .int .i64 0, .string ⟨#[]⟩, .int .i64 0, .int .i64 0, .slice none 0 0, .slice none 0 0, .string ⟨#[]⟩, .int .i64 0, .string ⟨#[]⟩, .int .i64 0, .int .i64 0, .slice none 0 0, .slice none 0 0, .slice none 0 0] hk.1.2.2 rfl) rfl), (H4.out.2.1.below hb (Nat.le_refl _)).wide hgr (by omega), ⟨(H4.out.2.2.1.below hb (Nat.le_refl _)).wide hgr (by omega), (H4.out.2.2.2.below hb (Nat.le_refl _)).wide hgr (by omega)⟩, (ho.lower hsz).wide hgr (by omega), hmap⟩
  have HW6 : Hid (w6 = (w5.setCell ⟨w.heap.size + 1 + 1, 10, none⟩ (.slice bp lp dp)).setCell ⟨w.heap.size + 1 + 1, 11, none⟩ (.bool t.found)) := hw6
  clear ho hmap hb hk hw6 hgr hsz H4 G3
  go_wp2_with fail
  rw [← HW6.out]
  clear HW6 q11 q12 q13 q14 q15 q16 q17 q18 q19 q20 q21 q22 q23 q24 q25 q26 u10 u11 f10 f11
  refine (G4.out _ H6.out.1.2.1).mono ?_
  rintro e w7 ⟨b3, d3, b4, d4, b5, d5, b6, d6, b7, d7, rfl, ⟨o3, o4⟩, ⟨o5, o6⟩, o7, hb⟩
  have hk := three_kept H6.out.1 hb
  obtain ⟨w8, hw8⟩ : ∃ w8, w8 = w7.setCells (w.heap.size + 1 + 1) 12 [.string t.a.log, .int .i64 t.a.size, .string t.a.root, .int .i64 t.a.time, .int .i64 t.a.k, .slice b3 t.a.el.length d3, .slice b4 t.a.pl.length d4, .string t.b.log, .int .i64 t.b.size, .string t.b.root, .int .i64 t.b.time, .int .i64 t.b.k, .slice b5 t.b.el.length d5, .slice b6 t.b.pl.length d6, .slice b7 t.fl.length d7] := ⟨_, rfl⟩
  have hgr : w7.grownBy w8 (some (w.heap.size + 1 + 1)) := by rw [hw8]; exact setCells_grown _ _ _ _ _ (rd_refl _ _)
  have hsz := H6.out.1.2.2
  have H8 := three_put hk hgr (r4 := #[.string t.log, .string t.key, .slice b0 t.en.length d0, .string t.h.log, .int .i64 t.h.size, .string t.h.root, .int .i64 t.h.time, .int .i64 t.h.k, .slice b1 t.h.el.length d1, .slice b2 t.h.pl.length d2, .slice bp lp dp, .bool t.found, .string t.a.log, .int .i64 t.a.size, .string t.a.root, .int .i64 t.a.time, .int .i64 t.a.k, .slice b3 t.a.el.length d3, .slice b4 t.a.pl.length d4, .string t.b.log, .int .i64 t.b.size, .string t.b.root, .int .i64 t.b.time, .int .i64 t.b.k, .slice b5 t.b.el.length d5, .slice b6 t.b.pl.length d6, .slice b7 t.fl.length d7]) (by rw [hw8]; exact setCells_row2 hk.1.2.2 (by simp only [putL, List.setIfInBounds_toArray, List.set_cons_zero, List.set_cons_succ]))
  have th : w7.there (w.heap.size + 1 + 1) 12 15 := there_row hk.1.2.2 (by simp)
  obtain ⟨w9, hw9⟩ : ∃ w9, w9 = w8.setRow (w.heap.size + 1) #[.string t.log, .string t.key, .slice b0 t.en.length d0, .string t.h.log, .int .i64 t.h.size, .string t.h.root, .int .i64 t.h.time, .int .i64 t.h.k, .slice b1 t.h.el.length d1, .slice b2 t.h.pl.length d2, .slice bp lp dp, .bool t.found, .string t.a.log, .int .i64 t.a.size, .string t.a.root, .int .i64 t.a.time, .int .i64 t.a.k, .slice b3 t.a.el.length d3, .slice b4 t.a.pl.length d4, .string t.b.log, .int .i64 t.b.size, .string t.b.root, .int .i64 t.b.time, .int .i64 t.b.k, .slice b5 t.b.el.length d5, .slice b6 t.b.pl.length d6, .slice b7 t.fl.length d7] := ⟨_, rfl⟩
  have hgr2 : w8.grownBy w9 (some (w.heap.size + 1)) := by rw [hw9]; exact ⟨rfl, rfl, rfl, by simp, fun k hk hne => setRow_other w8 _ k _ (fun e => hne (by rw [e]))⟩
  have over : ∀ (v : Value) (m : List ByteArray), OwnT w7 (w.heap.size + 3) v m → OwnT w9 (w.heap.size + 3) v m := fun v m ho => (ho.wide hgr (by omega)).wide hgr2 (by omega)
  have HF : Hid ((t.In (.slice b0 t.en.length d0) (.slice b1 t.h.el.length d1) (.slice b2 t.h.pl.length d2) (.slice b3 t.a.el.length d3) (.slice b4 t.a.pl.length d4) (.slice b5 t.b.el.length d5) (.slice b6 t.b.pl.length d6) (.slice b7 t.fl.length d7) w9 w9.heap.size ∧ Heads w9 w9.heap.size (.slice bp lp dp) l' ∧ l'.map Hv.x = l.map Hv.x ∧ Below w.heap.size w w9) ∧ w9.heap[w.heap.size + 1]? = some (.cells #[.string t.log, .string t.key, .slice b0 t.en.length d0, .string t.h.log, .int .i64 t.h.size, .string t.h.root, .int .i64 t.h.time, .int .i64 t.h.k, .slice b1 t.h.el.length d1, .slice b2 t.h.pl.length d2, .slice bp lp dp, .bool t.found, .string t.a.log, .int .i64 t.a.size, .string t.a.root, .int .i64 t.a.time, .int .i64 t.a.k, .slice b3 t.a.el.length d3, .slice b4 t.a.pl.length d4, .string t.b.log, .int .i64 t.b.size, .string t.b.root, .int .i64 t.b.time, .int .i64 t.b.k, .slice b5 t.b.el.length d5, .slice b6 t.b.pl.length d6, .slice b7 t.fl.length d7] 41 (0, 0))) := by
    obtain ⟨_, y1, ⟨y2, y3⟩, y4, y5⟩ := H6.out
    refine ⟨⟨⟨(over _ _ (y1.below hb (Nat.le_refl _))).texts, ⟨(over _ _ (y2.below hb (Nat.le_refl _))).texts, (over _ _ (y3.below hb (Nat.le_refl _))).texts⟩, ⟨(over _ _ (o3.lower hsz)).texts, (over _ _ (o4.lower hsz)).texts⟩, ⟨(over _ _ (o5.lower hsz)).texts, (over _ _ (o6.lower hsz)).texts⟩, (over _ _ (o7.lower hsz)).texts⟩, ((y4.below hb).wide hgr (by omega) |>.wide hgr2 (by omega)).heads, y5, below_own H8.2.1 hgr2 (by omega)⟩, ?_⟩
    rw [hw9]
    exact setRow_heap _ _ _ _ _ _ H8.1.2.1
  have s8 := H8.1.2.2
  have s9 := H8.1.2.1
  have HW8 : Hid (w8 = w7.setCells (w.heap.size + 1 + 1) 12 [.string t.a.log, .int .i64 t.a.size, .string t.a.root, .int .i64 t.a.time, .int .i64 t.a.k, .slice b3 t.a.el.length d3, .slice b4 t.a.pl.length d4, .string t.b.log, .int .i64 t.b.size, .string t.b.root, .int .i64 t.b.time, .int .i64 t.b.k, .slice b5 t.b.el.length d5, .slice b6 t.b.pl.length d6, .slice b7 t.fl.length d7]) := hw8
  have HW9 : Hid (w9 = w8.setRow (w.heap.size + 1) #[.string t.log, .string t.key, .slice b0 t.en.length d0, .string t.h.log, .int .i64 t.h.size, .string t.h.root, .int .i64 t.h.time, .int .i64 t.h.k, .slice b1 t.h.el.length d1, .slice b2 t.h.pl.length d2, .slice bp lp dp, .bool t.found, .string t.a.log, .int .i64 t.a.size, .string t.a.root, .int .i64 t.a.time, .int .i64 t.a.k, .slice b3 t.a.el.length d3, .slice b4 t.a.pl.length d4, .string t.b.log, .int .i64 t.b.size, .string t.b.root, .int .i64 t.b.time, .int .i64 t.b.k, .slice b5 t.b.el.length d5, .slice b6 t.b.pl.length d6, .slice b7 t.fl.length d7]) := hw9
  clear o3 o4 o5 o6 o7 hb hk hw8 hw9 hgr hgr2 hsz H8 H6 G4 over
  go_wp2_with (first | (refine wpList_store_mid rfl 39 (.tmp 28) (.tmp 27) rfl (w.heap.size + 1 + 1) 12 #[.string t.a.log, .int .i64 t.a.size, .string t.a.root, .int .i64 t.a.time, .int .i64 t.a.k, .slice b3 t.a.el.length d3, .slice b4 t.a.pl.length d4, .string t.b.log, .int .i64 t.b.size, .string t.b.root, .int .i64 t.b.time, .int .i64 t.b.k, .slice b5 t.b.el.length d5, .slice b6 t.b.pl.length d6, .slice b7 t.fl.length d7] ?_ ?_ th (by kernel_rfl) (by simp [Value.oneCell']) ?_; rfl; rfl; rw [← HW8.out]; clear th) | (refine wpList_load_row rfl 41 (.tmp 3) rfl (w.heap.size + 1 + 1) rfl _ _ _ _ s8 Tryz.underlying41 rfl (by kernel_rfl) ?_) | (refine wpList_store_row rfl 41 (.tmp 2) (.tmp 29) rfl (w.heap.size + 1) _ rfl rfl _ _ s9 (by kernel_rfl) rfl (by simp [Value.oneCell']) ?_; rw [← HW9.out]))
  refine bodyPost_ret (v := .agg #[.string t.log, .string t.key, .slice b0 t.en.length d0, .string t.h.log, .int .i64 t.h.size, .string t.h.root, .int .i64 t.h.time, .int .i64 t.h.k, .slice b1 t.h.el.length d1, .slice b2 t.h.pl.length d2, .slice bp lp dp, .bool t.found, .string t.a.log, .int .i64 t.a.size, .string t.a.root, .int .i64 t.a.time, .int .i64 t.a.k, .slice b3 t.a.el.length d3, .slice b4 t.a.pl.length d4, .string t.b.log, .int .i64 t.b.size, .string t.b.root, .int .i64 t.b.time, .int .i64 t.b.k, .slice b5 t.b.el.length d5, .slice b6 t.b.pl.length d6, .slice b7 t.fl.length d7]) (results_cell_row rfl _ _ (w.heap.size + 1) _ _ _ _ rfl HF.out.2 Tryz.underlying41 rfl (by kernel_rfl)) rfl ?_
  exact ⟨_, _, _, _, _, _, _, _, _, l', rfl, HF.out.1⟩
end Go.Proofs.YtpglcbidfghfkabGreatDoor
