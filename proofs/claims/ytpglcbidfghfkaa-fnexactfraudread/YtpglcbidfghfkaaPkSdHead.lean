/-
  The document's reading of a head: what stands in between.
-/
import Derived.Test.YtpglcbidfghfkaaPkSdText
import Derived.Test.YtpglcbidfghfkaaPkRdStrs
import Derived.Test.YtpglcbidfghfkaaPkStepLaws
namespace Go.Proofs.Ytpglcbidfghfkaa
open Go.RowKit Go.Lib
set_option linter.unusedVariables false
set_option linter.unusedSimpArgs false

/-- In between: the document's readers of s (at p) and of what is signed (at g); its head's cells are cs (at h). -/
def ShMid (s : ByteArray) (p : Nat) (w : World) (st : Option Int) (T : ByteArray) (g : Nat) (it : Option Int) (h : Nat) (cs : Array Value) (W : World) : Prop :=
  (Sd s p st W ∧ Sd T g it W) ∧ (W.heap[w.heap.size]? = some (.cells #[.string ⟨#[]⟩, .int .i64 0, .string ⟨#[]⟩, .int .i64 0, .int .i64 0, .slice none 0 0, .slice none 0 0] 26 (0, 0)) ∧ W.heap[h]? = some (.cells cs 26 (0, 0))) ∧ w.grownBy W (some p) ∧ p < w.heap.size ∧ w.heap.size < g ∧ w.heap.size < h ∧ g < h
theorem ShMid.inner {s : ByteArray} {p : Nat} {w : World} {st : Option Int} {T : ByteArray} {g : Nat} {it : Option Int} {h : Nat} {it' : Option Int} {cs : Array Value} {W W' : World} (hh : ShMid s p w st T g it h cs W) (hr : Sd T g it' W') (hg : W.grownBy W' (some g)) : ShMid s p w st T g it' h cs W' := by
  obtain ⟨⟨h1, h2⟩, ⟨h3, h4⟩, h5, h6, h7, h8, h9⟩ := hh
  have l3 := (Array.getElem?_eq_some_iff.1 h3).1
  have l4 := (Array.getElem?_eq_some_iff.1 h4).1
  exact ⟨⟨h1.block (hg.block _ h1.lt (by simp; omega)), hr⟩, ⟨(hg.block _ l3 (by simp; omega)).trans h3, (hg.block _ l4 (by simp; omega)).trans h4⟩, grown_own h5 hg (by omega), h6, h7, h8, h9⟩
theorem ShMid.outer {s : ByteArray} {p : Nat} {w : World} {st : Option Int} {T : ByteArray} {g : Nat} {it : Option Int} {h : Nat} {st' : Option Int} {cs : Array Value} {W W' : World} (hh : ShMid s p w st T g it h cs W) (hr : Sd s p st' W') (hg : W.grownBy W' (some p)) : ShMid s p w st' T g it h cs W' := by
  obtain ⟨⟨h1, h2⟩, ⟨h3, h4⟩, h5, h6, h7, h8, h9⟩ := hh
  have l3 := (Array.getElem?_eq_some_iff.1 h3).1
  have l4 := (Array.getElem?_eq_some_iff.1 h4).1
  exact ⟨⟨hr, h2.block (hg.block _ h2.lt (by simp; omega))⟩, ⟨(hg.block _ l3 (by simp; omega)).trans h3, (hg.block _ l4 (by simp; omega)).trans h4⟩, row_trans h5 hg, h6, h7, h8, h9⟩
theorem ShMid.put {s : ByteArray} {p : Nat} {w : World} {st : Option Int} {T : ByteArray} {g : Nat} {it : Option Int} {h : Nat} {cs : Array Value} {W : World} (hh : ShMid s p w st T g it h cs W) (i : Nat) (v : Value) (cs' : Array Value) (e : cs.setIfInBounds i v = cs') : ShMid s p w st T g it h cs' (W.setCell ⟨h, i, none⟩ v) := by
  obtain ⟨⟨h1, h2⟩, ⟨h3, h4⟩, h5, h6, h7, h8, h9⟩ := hh
  exact ⟨⟨h1.block (heap_pass (by omega) rfl), h2.block (heap_pass (by omega) rfl)⟩, ⟨heap_pass (by omega) h3, heap_put2 _ h4 e⟩, grown_own h5 (grown_cell (rd_refl _ _) _ _) (by omega), h6, h7, h8, h9⟩
theorem ShMid.below {s : ByteArray} {p : Nat} {w : World} {st : Option Int} {T : ByteArray} {g : Nat} {it : Option Int} {h : Nat} {cs : Array Value} {W W' : World} (hh : ShMid s p w st T g it h cs W) (hb : Below (h + 1) W W') : ShMid s p w st T g it h cs W' := by
  obtain ⟨⟨k1, k2⟩, ⟨k3, k4⟩, k5, k6, k7, k8, k9⟩ := hh
  exact ⟨⟨k1.block (hb.block _ (by omega)), k2.block (hb.block _ (by omega))⟩, ⟨(hb.block _ (by omega)).trans k3, (hb.block _ (by omega)).trans k4⟩, ⟨hb.os.trans k5.os, hb.tape.trans k5.tape, hb.output.trans k5.output, Nat.le_trans k5.size hb.size, fun i hi hne => (hb.block i (by omega)).trans (k5.block i hi hne)⟩, k6, k7, k8, k9⟩
theorem ShMid.cells {s : ByteArray} {p : Nat} {w : World} {st : Option Int} {T : ByteArray} {g : Nat} {it : Option Int} {h : Nat} {a b c d e f k : Value} {W : World} (hh : ShMid s p w st T g it h #[a, b, c, d, e, f, k] W) :
    (W.cell? ⟨h, 0, none⟩ = some (a) ∧ W.cell? ⟨h, 1, none⟩ = some (b) ∧ W.cell? ⟨h, 2, none⟩ = some (c) ∧ W.cell? ⟨h, 3, none⟩ = some (d) ∧ W.cell? ⟨h, 4, none⟩ = some (e) ∧ W.cell? ⟨h, 5, none⟩ = some (f) ∧ W.cell? ⟨h, 6, none⟩ = some (k)) ∧ (W.frozen? ⟨h, 0, none⟩ = false ∧ W.frozen? ⟨h, 1, none⟩ = false ∧ W.frozen? ⟨h, 2, none⟩ = false ∧ W.frozen? ⟨h, 3, none⟩ = false ∧ W.frozen? ⟨h, 4, none⟩ = false ∧ W.frozen? ⟨h, 5, none⟩ = false ∧ W.frozen? ⟨h, 6, none⟩ = false) := by
  obtain ⟨_, ⟨_, h4⟩, _⟩ := hh
  have r := row_here h4
  have q := row_free h4
  exact ⟨⟨r 0 _ rfl, r 1 _ rfl, r 2 _ rfl, r 3 _ rfl, r 4 _ rfl, r 5 _ rfl, r 6 _ rfl⟩, q 0, q 1, q 2, q 3, q 4, q 5, q 6⟩
/-- Where the document's reader stands behind a head. -/
def sdEnd (s : ByteArray) (st : Option Int) : Option Int := if (headAt s st).2.1 = none then none else (headAt s st).2.2
/-- What reading a head answers. -/
def HeadSd (s : ByteArray) (p : Nat) (st : Option Int) (w : World) (e : Ending) (w' : World) : Prop :=
  ∃ (x : Hd) (ve vp : Value) (n : Nat), e = .returned (.agg #[.string x.log, .int .i64 x.size, .string x.root, .int .i64 x.time, .int .i64 x.k, ve, vp]) ∧ (OwnT w' w.heap.size ve x.el ∧ OwnT w' w.heap.size vp x.pl) ∧ Sd s p (sdEnd s st) w' ∧ w.grownBy w' (some p) ∧ x = (headAt s st).1
end Go.Proofs.Ytpglcbidfghfkaa

/-
  The document's reading of a head.
-/
namespace Go.Proofs.Ytpglcbidfghfkaa
open Go.RowKit Go.Lib
set_option linter.unusedVariables false
set_option linter.unusedSimpArgs false

set_option maxHeartbeats 4000000 in
set_option maxRecDepth 10000 in
theorem sdHead_any (s : ByteArray) (hs : ¬ 20000 < (s.size : Int)) (p : Nat) (st : Option Int) (w : World) (h : Sd s p st w) :
    Calls Try.prog 15 #[.pointer (some ⟨p, 0, none⟩)] w fun e w' => HeadSd s p st w e w' := by
  obtain ⟨W, hW⟩ : ∃ W, W = w.alloc (.cells #[.string ⟨#[]⟩, .int .i64 0, .string ⟨#[]⟩, .int .i64 0, .int .i64 0, .slice none 0 0, .slice none 0 0] 26) := ⟨_, rfl⟩
  have hlt := h.lt
  have hbW : Below w.heap.size w W := by rw [hW]; exact (Below.refl _ _).alloc (Nat.le_refl _) _
  have H0 : Hid (Sd s p st W ∧ W.heap[w.heap.size]? = some (.cells #[.string ⟨#[]⟩, .int .i64 0, .string ⟨#[]⟩, .int .i64 0, .int .i64 0, .slice none 0 0, .slice none 0 0] 26 (0, 0)) ∧ w.grownBy W (some p) ∧ p < w.heap.size) := ⟨h.block (hbW.block p hlt), by rw [hW]; exact heap_alloc_new w _, row_below hbW _, hlt⟩
  have HW : Hid (W = w.alloc (.cells #[.string ⟨#[]⟩, .int .i64 0, .string ⟨#[]⟩, .int .i64 0, .int .i64 0, .slice none 0 0, .slice none 0 0] 26)) := hW
  have ES : Hid (∀ (s : ByteArray) (hs : ¬ 20000 < (s.size : Int)) (p : Nat) (st : Option Int) (w : World), Sd s p st w → Calls Try.prog 17 #[.pointer (some ⟨p, 0, none⟩)] w fun e w' => e = .returned (.string (rdText s st).1) ∧ Sd s p (rdText s st).2 w' ∧ w.grownBy w' (some p)) := stext_any
  have EN : Hid (∀ (s : ByteArray) (hs : ¬ 20000 < (s.size : Int)) (p : Nat) (st : Option Int) (w : World), Sd s p st w → Calls Try.prog 16 #[.pointer (some ⟨p, 0, none⟩)] w fun e w' => e = .returned (.int .i64 (rdNum s st).1) ∧ Sd s p (rdNum s st).2 w' ∧ w.grownBy w' (some p)) := snum_any
  have HS : Hid (¬ 20000 < (s.size : Int)) := hs
  have HTT : Hid (¬ 20000 < ((rdText s st).1.size : Int)) := (by have := rdText_size s st; show ¬ 20000 < ((rdText s st).1.size : Int); omega)
  clear h hbW hW hs hlt
  go_enter Try.func15, Try.ntmps15
  go_wp2_with fail
  rw [← HW.out]
  clear HW
  refine (ES.out s HS.out p st W H0.out.1).mono ?_
  rintro e w1 ⟨rfl, hr1, hg1⟩
  have HHT : Hid (headAt s st = (⟨(rdText (rdText s st).1 (some 0)).1, (rdText (rdText s st).1 (rdNum (rdText s st).1 (rdText (rdText s st).1 (some 0)).2).2).1, (rdNum (rdText s st).1 (rdText (rdText s st).1 (some 0)).2).1, (rdNum (rdText s st).1 (rdText (rdText s st).1 (rdNum (rdText s st).1 (rdText (rdText s st).1 (some 0)).2).2).2).1, (rdNum s (rdText s st).2).1, (rdTexts s (rdNum s (rdText s st).2).2 6).1, (rdTexts s (rdTexts s (rdNum s (rdText s st).2).2 6).2 2).1⟩, (rdNum (rdText s st).1 (rdText (rdText s st).1 (rdNum (rdText s st).1 (rdText (rdText s st).1 (some 0)).2).2).2).2, (rdTexts s (rdTexts s (rdNum s (rdText s st).2).2 6).2 2).2)) := rfl
  generalize (rdText s st).1 = T at *
  generalize (rdText s st).2 = st1 at *
  obtain ⟨W1, hW1⟩ : ∃ W1, W1 = w1.alloc (.cells #[.string T, .int .i64 0, .bool false] 44) := ⟨_, rfl⟩
  have hb1 : Below w1.heap.size w1 W1 := by rw [hW1]; exact (Below.refl _ _).alloc (Nat.le_refl _) _
  obtain ⟨g, hg⟩ : ∃ g, g = w1.heap.size := ⟨_, rfl⟩
  have H1 : Hid ((Sd s p st1 W1 ∧ Sd T g (some 0) W1) ∧ W1.heap[w.heap.size]? = some (.cells #[.string ⟨#[]⟩, .int .i64 0, .string ⟨#[]⟩, .int .i64 0, .int .i64 0, .slice none 0 0, .slice none 0 0] 26 (0, 0)) ∧ w.grownBy W1 (some p) ∧ p < w.heap.size ∧ w.heap.size < g) := by
    obtain ⟨p1, p2, p4, p5⟩ := H0.out
    have l2 := (Array.getElem?_eq_some_iff.1 p2).1
    have hz := hg1.size
    exact ⟨⟨hr1.block (hb1.block _ hr1.lt), ⟨0, false, by rw [hW1, hg]; exact heap_alloc_new w1 _, by decide, .inl ⟨rfl, rfl, Int.le_refl _, Int.natCast_nonneg _⟩⟩⟩, (hb1.block _ (by omega)).trans ((hg1.block _ l2 (by simp; omega)).trans p2), grown_then (row_trans p4 hg1) (hb1.mono (Nat.le_trans p4.size hz)), p5, by omega⟩
  have HW1 : Hid (W1 = w1.alloc (.cells #[.string T, .int .i64 0, .bool false] 44)) := hW1
  have HG : Hid (g = w1.heap.size) := hg
  clear hr1 hg1 hW1 hg hb1 H0
  go_wp2_with fail
  rw [← HW1.out, ← HG.out]
  clear HW1 HG
  refine (ES.out T HTT.out g (some 0) _ H1.out.1.2).mono ?_
  rintro e w2 ⟨rfl, hr, hgr⟩
  generalize (rdText T (some 0)).1 = t1 at *
  generalize (rdText T (some 0)).2 = i1 at *
  obtain ⟨W2, hW2⟩ : ∃ W2, W2 = w2.alloc (.cells #[.string t1, .int .i64 0, .string ⟨#[]⟩, .int .i64 0, .int .i64 0, .slice none 0 0, .slice none 0 0] 26) := ⟨_, rfl⟩
  have hb2 : Below w2.heap.size w2 W2 := by rw [hW2]; exact (Below.refl _ _).alloc (Nat.le_refl _) _
  obtain ⟨h, hh⟩ : ∃ h, h = w2.heap.size := ⟨_, rfl⟩
  have H2 : Hid (ShMid s p w st1 T g i1 h #[.string t1, .int .i64 0, .string ⟨#[]⟩, .int .i64 0, .int .i64 0, .slice none 0 0, .slice none 0 0] W2) := by
    obtain ⟨⟨p1, p2⟩, p3, p4, p5, p6⟩ := H1.out
    have l3 := (Array.getElem?_eq_some_iff.1 p3).1
    have lp := p1.lt
    have hz := hgr.size
    have lg := p2.lt
    exact ⟨⟨p1.block ((hb2.block _ (by omega)).trans (hgr.block _ lp (by simp; omega))), hr.block (hb2.block _ hr.lt)⟩, ⟨(hb2.block _ (by omega)).trans ((hgr.block _ l3 (by simp; omega)).trans p3), by rw [hW2, hh]; exact heap_alloc_new w2 _⟩, grown_then (grown_own p4 hgr (by omega)) (hb2.mono (by have := p4.size; omega)), p5, p6, by omega, by omega⟩
  have HW2 : Hid (W2 = w2.alloc (.cells #[.string t1, .int .i64 0, .string ⟨#[]⟩, .int .i64 0, .int .i64 0, .slice none 0 0, .slice none 0 0] 26)) := hW2
  have HH : Hid (h = w2.heap.size) := hh
  clear hr hgr hW2 hh hb2 H1
  go_wp2_with fail
  rw [← HW2.out, ← HH.out]
  clear HW2 HH
  refine (EN.out T HTT.out g (i1) _ H2.out.1.2).mono ?_
  rintro e w3 ⟨rfl, hr, hgr⟩
  generalize (rdNum T (i1)).1 = n2 at *
  generalize (rdNum T (i1)).2 = i2 at *
  have G3 : Hid (ShMid s p w st1 T g i2 h #[.string t1, .int .i64 0, .string ⟨#[]⟩, .int .i64 0, .int .i64 0, .slice none 0 0, .slice none 0 0] w3) := H2.out.inner hr hgr
  obtain ⟨⟨c0, c1, c2, c3, c4, c5, c6⟩, f0, f1, f2, f3, f4, f5, f6⟩ := G3.out.cells
  clear hr hgr H2
  have H3 : Hid (ShMid s p w st1 T g i2 h #[.string t1, .int .i64 n2, .string ⟨#[]⟩, .int .i64 0, .int .i64 0, .slice none 0 0, .slice none 0 0] (w3.setCell ⟨h, 1, none⟩ (.int .i64 n2))) := G3.out.put 1 _ _ rfl
  clear G3
  go_wp2_with fail
  clear c0 c1 c2 c3 c4 c5 c6 f0 f1 f2 f3 f4 f5 f6
  refine (ES.out T HTT.out g (i2) _ H3.out.1.2).mono ?_
  rintro e w4 ⟨rfl, hr, hgr⟩
  generalize (rdText T (i2)).1 = t3 at *
  generalize (rdText T (i2)).2 = i3 at *
  have G4 : Hid (ShMid s p w st1 T g i3 h #[.string t1, .int .i64 n2, .string ⟨#[]⟩, .int .i64 0, .int .i64 0, .slice none 0 0, .slice none 0 0] w4) := H3.out.inner hr hgr
  obtain ⟨⟨c0, c1, c2, c3, c4, c5, c6⟩, f0, f1, f2, f3, f4, f5, f6⟩ := G4.out.cells
  clear hr hgr H3
  have H4 : Hid (ShMid s p w st1 T g i3 h #[.string t1, .int .i64 n2, .string t3, .int .i64 0, .int .i64 0, .slice none 0 0, .slice none 0 0] (w4.setCell ⟨h, 2, none⟩ (.string t3))) := G4.out.put 2 _ _ rfl
  clear G4
  go_wp2_with fail
  clear c0 c1 c2 c3 c4 c5 c6 f0 f1 f2 f3 f4 f5 f6
  refine (EN.out T HTT.out g (i3) _ H4.out.1.2).mono ?_
  rintro e w5 ⟨rfl, hr, hgr⟩
  generalize (rdNum T (i3)).1 = n4 at *
  generalize (rdNum T (i3)).2 = i4 at *
  have G5 : Hid (ShMid s p w st1 T g i4 h #[.string t1, .int .i64 n2, .string t3, .int .i64 0, .int .i64 0, .slice none 0 0, .slice none 0 0] w5) := H4.out.inner hr hgr
  obtain ⟨⟨c0, c1, c2, c3, c4, c5, c6⟩, f0, f1, f2, f3, f4, f5, f6⟩ := G5.out.cells
  clear hr hgr H4
  have H5 : Hid (ShMid s p w st1 T g i4 h #[.string t1, .int .i64 n2, .string t3, .int .i64 n4, .int .i64 0, .slice none 0 0, .slice none 0 0] (w5.setCell ⟨h, 3, none⟩ (.int .i64 n4))) := G5.out.put 3 _ _ rfl
  clear G5
  go_wp2_with fail
  clear c0 c1 c2 c3 c4 c5 c6 f0 f1 f2 f3 f4 f5 f6
  refine (EN.out s HS.out p (st1) _ H5.out.1.1).mono ?_
  rintro e w6 ⟨rfl, hr, hgr⟩
  generalize (rdNum s (st1)).1 = n5 at *
  generalize (rdNum s (st1)).2 = st2 at *
  have G6 : Hid (ShMid s p w st2 T g i4 h #[.string t1, .int .i64 n2, .string t3, .int .i64 n4, .int .i64 0, .slice none 0 0, .slice none 0 0] w6) := H5.out.outer hr hgr
  obtain ⟨⟨c0, c1, c2, c3, c4, c5, c6⟩, f0, f1, f2, f3, f4, f5, f6⟩ := G6.out.cells
  clear hr hgr H5
  have H6 : Hid (ShMid s p w st2 T g i4 h #[.string t1, .int .i64 n2, .string t3, .int .i64 n4, .int .i64 n5, .slice none 0 0, .slice none 0 0] (w6.setCell ⟨h, 4, none⟩ (.int .i64 n5))) := G6.out.put 4 _ _ rfl
  clear G6
  obtain ⟨W6, hW6⟩ : ∃ W6, W6 = w6.setCell ⟨h, 4, none⟩ (.int .i64 n5) := ⟨_, rfl⟩
  have HW6 : Hid (W6 = w6.setCell ⟨h, 4, none⟩ (.int .i64 n5)) := hW6
  rw [← hW6] at H6
  clear hW6
  have HP : Hid (p < w.heap.size) := H6.out.2.2.2.1
  go_wp2_with fail
  rw [← HW6.out]
  clear HW6 c0 c1 c2 c3 c4 c5 c6 f0 f1 f2 f3 f4 f5 f6
  go_loopw [5] (fun x wr => ∃ (k : Nat) (a5 : Option Addr) (c5' : Nat), k ≤ 6 ∧ x = .int .i64 k ∧ ShMid s p w (rdTexts s st2 k).2 T g i4 h #[.string t1, .int .i64 n2, .string t3, .int .i64 n4, .int .i64 n5, .slice a5 k c5', .slice none 0 0] wr ∧ OwnT wr (h + 1) (.slice a5 k c5') (rdTexts s st2 k).1) (fun x _ => 6 - (intOf x).toNat)
  case atStart => exact ⟨0, none, 0, by omega, rfl, H6.out, OwnT.nil _ _⟩
  case round =>
    obtain ⟨k, a5, c5', hk, rfl, hmid, hown⟩ := hrel
    have HM : Hid (ShMid s p w (rdTexts s st2 k).2 T g i4 h #[.string t1, .int .i64 n2, .string t3, .int .i64 n4, .int .i64 n5, .slice a5 k c5', .slice none 0 0] wr ∧ OwnT wr (h + 1) (.slice a5 k c5') (rdTexts s st2 k).1) := ⟨hmid, hown⟩
    have hkk : (rdTexts s st2 k).1.length = k := rdTexts_length s st2 k
    by_cases hk6 : k < 6
    · have HE : Hid (∀ W, Like wr W → Calls Try.prog 17 #[.pointer (some ⟨p, 0, none⟩)] W fun e w' => e = .returned (.string (rdText s (rdTexts s st2 k).2).1) ∧ ShMid s p w (rdTexts s st2 (k + 1)).2 T g i4 h #[.string t1, .int .i64 n2, .string t3, .int .i64 n4, .int .i64 n5, .slice a5 k c5', .slice none 0 0] w' ∧ OwnT w' (h + 1) (.slice a5 k c5') (rdTexts s st2 k).1) := fun W hL => by
        obtain ⟨l1, l2, l3, l4⟩ := hL
        have hS : Sd s p (rdTexts s st2 k).2 W := HM.out.1.1.1.block (by rw [l4])
        refine (ES.out s HS.out p _ W hS).mono ?_
        rintro e w' ⟨rfl, hr, hg⟩
        have hg' : wr.grownBy w' (some p) := ⟨hg.os.trans l1, hg.tape.trans l2, hg.output.trans l3, by rw [← l4]; exact hg.size, fun i hi hne => (hg.block i (by rw [l4]; exact hi) hne).trans (by rw [l4])⟩
        exact ⟨rfl, HM.out.1.outer hr hg', HM.out.2.grown hg' (by have := HP.out; have := HM.out.1.2.2.2.2.2.1; omega)⟩
      have HL : Hid ((rdTexts s st2 k).1 ++ [(rdText s (rdTexts s st2 k).2).1] = (rdTexts s st2 (k + 1)).1) := rfl
      have hll : (rdTexts s st2 k).1.length ≤ 1048576 := by omega
      obtain ⟨⟨c0, c1, c2, c3, c4, c5, c6⟩, f0, f1, f2, f3, f4, f5, f6⟩ := hmid.cells
      have hkI : (k : Int) < 6 := by omega
      generalize (rdText s (rdTexts s st2 k).2).1 = t at *
      clear hmid hown
      go_wp2
      go_region_law (first
        | (refine step_enter rfl 17 #[.pointer (some ⟨p, 0, none⟩)] (HE.out _ ?lk) ?_ ?_; (case lk => exact ⟨rfl, rfl, rfl, rfl⟩); go_simp; rintro e wa ⟨rfl, hma, hoa⟩; refine ⟨_, rfl, ?_⟩; obtain ⟨⟨c0, c1, c2, c3, c4, c5, c6⟩, f0, f1, f2, f3, f4, f5, f6⟩ := hma.cells; have hltA := (Array.getElem?_eq_some_iff.1 hma.2.1.2).1; have HA : Hid (ShMid s p w (rdTexts s st2 (k + 1)).2 T g i4 h #[.string t1, .int .i64 n2, .string t3, .int .i64 n4, .int .i64 n5, .slice a5 k c5', .slice none 0 0] wa ∧ OwnT wa (h + 1) (.slice a5 k c5') (rdTexts s st2 k).1) := ⟨hma, hoa⟩; clear hma hoa)
        | (refine step_app_text (w := wa) rfl (.tmp 32) (.tmp 35) rfl (h + 1) (.slice a5 k c5') (rdTexts s st2 k).1 t (by simp [Act.eval]) HA.out.2 (by simp [Act.eval]) hll (Array.getElem?_eq_some_iff.1 HA.out.1.2.1.2).1 ?_; intro v4 w4 hown4 hb4; obtain ⟨aq, cq, e4⟩ := hown4.len; rw [List.length_append, hkk] at e4; obtain rfl : v4 = .slice aq (k + 1) cq := e4; have hm4 := HA.out.1.below hb4; have HB4 : Hid (ShMid s p w (rdTexts s st2 (k + 1)).2 T g i4 h #[.string t1, .int .i64 n2, .string t3, .int .i64 n4, .int .i64 n5, .slice a5 k c5', .slice none 0 0] w4 ∧ OwnT w4 (h + 1) (.slice aq (k + 1) cq) (rdTexts s st2 (k + 1)).1) := ⟨hm4, by rw [← HL.out]; exact hown4⟩; obtain ⟨⟨c0, c1, c2, c3, c4, c5, c6⟩, f0, f1, f2, f3, f4, f5, f6⟩ := hm4.cells; clear hm4 hown4 hb4))
      all_goals
        have HF : Hid (ShMid s p w (rdTexts s st2 (k + 1)).2 T g i4 h #[.string t1, .int .i64 n2, .string t3, .int .i64 n4, .int .i64 n5, .slice aq (k + 1) cq, .slice none 0 0] (w4.setCell ⟨h, 5, none⟩ (.slice aq (k + 1) cq)) ∧ OwnT (w4.setCell ⟨h, 5, none⟩ (.slice aq (k + 1) cq)) (h + 1) (.slice aq (k + 1) cq) (rdTexts s st2 (k + 1)).1) := ⟨HB4.out.1.put 5 _ _ rfl, HB4.out.2.past (grown_cell (rd_refl _ _) _ _) HB4.out.1.2.1.2 (by decide)⟩
        clear c0 c1 c2 c3 c4 c5 c6 f0 f1 f2 f3 f4 f5 f6
        go_wp2
        go_roundw
        case rel => exact ⟨k + 1, aq, cq, by omega, by go_num, HF.out.1, HF.out.2⟩
        case measure => simp [intOf]; omega
    · obtain rfl : k = 6 := by omega
      clear hmid hown hkk
      have hk0 : ¬ ((6 : Nat) : Int) < 6 := by omega
      obtain ⟨st3, hst3⟩ : ∃ st3, st3 = (rdTexts s st2 6).2 := ⟨_, rfl⟩
      obtain ⟨B2, hB2⟩ : ∃ B2, B2 = wr.heap.size := ⟨_, rfl⟩
      obtain ⟨EL, hEL⟩ : ∃ EL, EL = (rdTexts s st2 6).1 := ⟨_, rfl⟩
      have K0 : Hid (ShMid s p w (rdTexts s st3 0).2 T g i4 h #[.string t1, .int .i64 n2, .string t3, .int .i64 n4, .int .i64 n5, .slice a5 6 c5', .slice none 0 0] wr ∧ OwnT wr (h + 1) (.slice a5 6 c5') EL ∧ OwnT wr B2 (.slice none 0 0) (rdTexts s st3 0).1 ∧ B2 ≤ wr.heap.size) := ⟨by rw [hst3]; exact HM.out.1, by rw [hEL]; exact HM.out.2, OwnT.nil _ _, Nat.le_of_eq hB2⟩
      have HB2 : Hid (h < B2 ∧ ∀ g, (Value.slice a5 6 c5').ownBlock = some g → g < B2) := ⟨by rw [hB2]; exact (Array.getElem?_eq_some_iff.1 HM.out.1.2.1.2).1, fun g hg => by rw [hB2]; exact (HM.out.2.block_lt g hg).2⟩
      have HX : Hid ((headAt s st).1 = ⟨t1, t3, n2, n4, n5, EL, (rdTexts s st3 2).1⟩ ∧ sdEnd s st = (if i4 = none then none else (rdTexts s st3 2).2) ∧ EL.length = 6) := by
        unfold sdEnd
        rw [HHT.out, hst3, hEL]
        exact ⟨rfl, rfl, rdTexts_length _ _ _⟩
      clear hst3 hEL HM HHT hB2
      obtain ⟨⟨c0, c1, c2, c3, c4, c5, c6⟩, f0, f1, f2, f3, f4, f5, f6⟩ := K0.out.1.cells
      have HE : Hid (∀ W, Like wr W → Calls Try.prog 17 #[.pointer (some ⟨p, 0, none⟩)] W fun e w' => e = .returned (.string (rdText s (rdTexts s st3 0).2).1) ∧ ShMid s p w (rdTexts s st3 1).2 T g i4 h #[.string t1, .int .i64 n2, .string t3, .int .i64 n4, .int .i64 n5, .slice a5 6 c5', .slice none 0 0] w' ∧ OwnT w' (h + 1) (.slice a5 6 c5') EL ∧ OwnT w' B2 (.slice none 0 0) (rdTexts s st3 0).1 ∧ B2 ≤ w'.heap.size) := fun W hL => by
        obtain ⟨l1, l2, l3, l4⟩ := hL
        have hS : Sd s p (rdTexts s st3 0).2 W := K0.out.1.1.1.block (by rw [l4])
        refine (ES.out s HS.out p _ W hS).mono ?_
        rintro e w' ⟨rfl, hr, hg⟩
        have hg' : (wr).grownBy w' (some p) := ⟨hg.os.trans l1, hg.tape.trans l2, hg.output.trans l3, by rw [← l4]; exact hg.size, fun i hi hne => (hg.block i (by rw [l4]; exact hi) hne).trans (by rw [l4])⟩
        have hph : p < h + 1 := by have := HP.out; have := K0.out.1.2.2.2.2.2.1; omega
        exact ⟨rfl, K0.out.1.outer hr hg', K0.out.2.1.grown hg' hph, K0.out.2.2.1.grown hg' (by have := HB2.out.1; omega), Nat.le_trans K0.out.2.2.2 hg'.size⟩
      have HL : Hid ((rdTexts s st3 0).1 ++ [(rdText s (rdTexts s st3 0).2).1] = (rdTexts s st3 1).1) := rfl
      have hll : (rdTexts s st3 0).1.length ≤ 1048576 := by rw [rdTexts_length]; omega
      have hkk : (rdTexts s st3 0).1.length = 0 := rdTexts_length s st3 0
      generalize (rdText s (rdTexts s st3 0).2).1 = t at *
      clear K0
      go_wp2_with fail
      go_region_law (first
        | (refine step_enter rfl 17 #[.pointer (some ⟨p, 0, none⟩)] (HE.out _ ?lk) ?_ ?_; (case lk => exact ⟨rfl, rfl, rfl, rfl⟩); go_simp; rintro e wa ⟨rfl, hma, hob, hoa, hza⟩; refine ⟨_, rfl, ?_⟩; obtain ⟨⟨c0, c1, c2, c3, c4, c5, c6⟩, f0, f1, f2, f3, f4, f5, f6⟩ := hma.cells; have hltA := (Array.getElem?_eq_some_iff.1 hma.2.1.2).1; have HA : Hid (ShMid s p w (rdTexts s st3 1).2 T g i4 h #[.string t1, .int .i64 n2, .string t3, .int .i64 n4, .int .i64 n5, .slice a5 6 c5', .slice none 0 0] wa ∧ OwnT wa (h + 1) (.slice a5 6 c5') EL ∧ OwnT wa B2 (.slice none 0 0) (rdTexts s st3 0).1 ∧ B2 ≤ wa.heap.size) := ⟨hma, hob, hoa, hza⟩; clear hma hoa hob hza)
        | (refine step_app_text (w := wa) rfl (.tmp 41) (.tmp 44) rfl B2 (.slice none 0 0) (rdTexts s st3 0).1 t (by simp [Act.eval]) HA.out.2.2.1 (by simp [Act.eval]) hll HA.out.2.2.2 ?_; intro v4 w4 hown4 hb4; obtain ⟨a7, e7, e4⟩ := hown4.len; rw [List.length_append, hkk] at e4; obtain rfl : v4 = .slice a7 1 e7 := e4; have hm4 := HA.out.1.below (hb4.mono HB2.out.1); have HB4 : Hid (ShMid s p w (rdTexts s st3 1).2 T g i4 h #[.string t1, .int .i64 n2, .string t3, .int .i64 n4, .int .i64 n5, .slice a5 6 c5', .slice none 0 0] w4 ∧ OwnT w4 (h + 1) (.slice a5 6 c5') EL ∧ OwnT w4 B2 (.slice a7 1 e7) (rdTexts s st3 1).1 ∧ B2 ≤ w4.heap.size) := ⟨hm4, HA.out.2.1.under hb4 HB2.out.2, by rw [← HL.out]; exact hown4, Nat.le_trans HA.out.2.2.2 hb4.size⟩; obtain ⟨⟨c0, c1, c2, c3, c4, c5, c6⟩, f0, f1, f2, f3, f4, f5, f6⟩ := hm4.cells; clear hm4 hown4 hb4))
      all_goals
        have K1 : Hid (ShMid s p w (rdTexts s st3 1).2 T g i4 h #[.string t1, .int .i64 n2, .string t3, .int .i64 n4, .int .i64 n5, .slice a5 6 c5', .slice a7 1 e7] (w4.setCell ⟨h, 6, none⟩ (.slice a7 1 e7)) ∧ OwnT (w4.setCell ⟨h, 6, none⟩ (.slice a7 1 e7)) (h + 1) (.slice a5 6 c5') EL ∧ OwnT (w4.setCell ⟨h, 6, none⟩ (.slice a7 1 e7)) B2 (.slice a7 1 e7) (rdTexts s st3 1).1 ∧ B2 ≤ (w4.setCell ⟨h, 6, none⟩ (.slice a7 1 e7)).heap.size) := ⟨HB4.out.1.put 6 _ _ rfl, HB4.out.2.1.past (grown_cell (rd_refl _ _) _ _) HB4.out.1.2.1.2 (by decide), HB4.out.2.2.1.past (grown_cell (rd_refl _ _) _ _) HB4.out.1.2.1.2 (by decide), by rw [size_put]; exact HB4.out.2.2.2⟩
        clear c0 c1 c2 c3 c4 c5 c6 f0 f1 f2 f3 f4 f5 f6 HB4 HA HE HL hll hkk
        obtain ⟨w7, hw7⟩ : ∃ w7, w7 = w4.setCell ⟨h, 6, none⟩ (.slice a7 1 e7) := ⟨_, rfl⟩
        rw [← hw7] at K1
        have HW7 : Hid (w7 = w4.setCell ⟨h, 6, none⟩ (.slice a7 1 e7)) := hw7
        clear hw7
        go_wp2_with fail
        rw [← HW7.out]
        clear HW7
        obtain ⟨⟨c0, c1, c2, c3, c4, c5, c6⟩, f0, f1, f2, f3, f4, f5, f6⟩ := K1.out.1.cells
        have HE : Hid (∀ W, Like w7 W → Calls Try.prog 17 #[.pointer (some ⟨p, 0, none⟩)] W fun e w' => e = .returned (.string (rdText s (rdTexts s st3 1).2).1) ∧ ShMid s p w (rdTexts s st3 2).2 T g i4 h #[.string t1, .int .i64 n2, .string t3, .int .i64 n4, .int .i64 n5, .slice a5 6 c5', .slice a7 1 e7] w' ∧ OwnT w' (h + 1) (.slice a5 6 c5') EL ∧ OwnT w' B2 (.slice a7 1 e7) (rdTexts s st3 1).1 ∧ B2 ≤ w'.heap.size) := fun W hL => by
          obtain ⟨l1, l2, l3, l4⟩ := hL
          have hS : Sd s p (rdTexts s st3 1).2 W := K1.out.1.1.1.block (by rw [l4])
          refine (ES.out s HS.out p _ W hS).mono ?_
          rintro e w' ⟨rfl, hr, hg⟩
          have hg' : (w7).grownBy w' (some p) := ⟨hg.os.trans l1, hg.tape.trans l2, hg.output.trans l3, by rw [← l4]; exact hg.size, fun i hi hne => (hg.block i (by rw [l4]; exact hi) hne).trans (by rw [l4])⟩
          have hph : p < h + 1 := by have := HP.out; have := K1.out.1.2.2.2.2.2.1; omega
          exact ⟨rfl, K1.out.1.outer hr hg', K1.out.2.1.grown hg' hph, K1.out.2.2.1.grown hg' (by have := HB2.out.1; omega), Nat.le_trans K1.out.2.2.2 hg'.size⟩
        have HL : Hid ((rdTexts s st3 1).1 ++ [(rdText s (rdTexts s st3 1).2).1] = (rdTexts s st3 2).1) := rfl
        have hll : (rdTexts s st3 1).1.length ≤ 1048576 := by rw [rdTexts_length]; omega
        have hkk : (rdTexts s st3 1).1.length = 1 := rdTexts_length s st3 1
        generalize (rdText s (rdTexts s st3 1).2).1 = t at *
        clear K1
        go_wp2_with fail
        go_region_law (first
          | (refine step_enter rfl 17 #[.pointer (some ⟨p, 0, none⟩)] (HE.out _ ?lk) ?_ ?_; (case lk => exact ⟨rfl, rfl, rfl, rfl⟩); go_simp; rintro e wa ⟨rfl, hma, hob, hoa, hza⟩; refine ⟨_, rfl, ?_⟩; obtain ⟨⟨c0, c1, c2, c3, c4, c5, c6⟩, f0, f1, f2, f3, f4, f5, f6⟩ := hma.cells; have hltA := (Array.getElem?_eq_some_iff.1 hma.2.1.2).1; have HA : Hid (ShMid s p w (rdTexts s st3 2).2 T g i4 h #[.string t1, .int .i64 n2, .string t3, .int .i64 n4, .int .i64 n5, .slice a5 6 c5', .slice a7 1 e7] wa ∧ OwnT wa (h + 1) (.slice a5 6 c5') EL ∧ OwnT wa B2 (.slice a7 1 e7) (rdTexts s st3 1).1 ∧ B2 ≤ wa.heap.size) := ⟨hma, hob, hoa, hza⟩; clear hma hoa hob hza)
          | (refine step_app_text (w := wa) rfl (.tmp 50) (.tmp 53) rfl B2 (.slice a7 1 e7) (rdTexts s st3 1).1 t (by simp [Act.eval]) HA.out.2.2.1 (by simp [Act.eval]) hll HA.out.2.2.2 ?_; intro v4 w4 hown4 hb4; obtain ⟨a8, e8, e4⟩ := hown4.len; rw [List.length_append, hkk] at e4; obtain rfl : v4 = .slice a8 2 e8 := e4; have hm4 := HA.out.1.below (hb4.mono HB2.out.1); have HB4 : Hid (ShMid s p w (rdTexts s st3 2).2 T g i4 h #[.string t1, .int .i64 n2, .string t3, .int .i64 n4, .int .i64 n5, .slice a5 6 c5', .slice a7 1 e7] w4 ∧ OwnT w4 (h + 1) (.slice a5 6 c5') EL ∧ OwnT w4 B2 (.slice a8 2 e8) (rdTexts s st3 2).1 ∧ B2 ≤ w4.heap.size) := ⟨hm4, HA.out.2.1.under hb4 HB2.out.2, by rw [← HL.out]; exact hown4, Nat.le_trans HA.out.2.2.2 hb4.size⟩; obtain ⟨⟨c0, c1, c2, c3, c4, c5, c6⟩, f0, f1, f2, f3, f4, f5, f6⟩ := hm4.cells; clear hm4 hown4 hb4))
        all_goals
          have K2 : Hid (ShMid s p w (rdTexts s st3 2).2 T g i4 h #[.string t1, .int .i64 n2, .string t3, .int .i64 n4, .int .i64 n5, .slice a5 6 c5', .slice a8 2 e8] (w4.setCell ⟨h, 6, none⟩ (.slice a8 2 e8)) ∧ OwnT (w4.setCell ⟨h, 6, none⟩ (.slice a8 2 e8)) (h + 1) (.slice a5 6 c5') EL ∧ OwnT (w4.setCell ⟨h, 6, none⟩ (.slice a8 2 e8)) B2 (.slice a8 2 e8) (rdTexts s st3 2).1 ∧ B2 ≤ (w4.setCell ⟨h, 6, none⟩ (.slice a8 2 e8)).heap.size) := ⟨HB4.out.1.put 6 _ _ rfl, HB4.out.2.1.past (grown_cell (rd_refl _ _) _ _) HB4.out.1.2.1.2 (by decide), HB4.out.2.2.1.past (grown_cell (rd_refl _ _) _ _) HB4.out.1.2.1.2 (by decide), by rw [size_put]; exact HB4.out.2.2.2⟩
          clear c0 c1 c2 c3 c4 c5 c6 f0 f1 f2 f3 f4 f5 f6 HA HE HL hll hkk
          have k2 := row_here HB4.out.1.2.1.1
          have q2 := row_free HB4.out.1.2.1.1
          obtain ⟨k0, k1, k2, k3, k4, k5, k6⟩ : w4.cell? ⟨w.heap.size, 0, none⟩ = some (.string ⟨#[]⟩) ∧ w4.cell? ⟨w.heap.size, 1, none⟩ = some (.int .i64 0) ∧ w4.cell? ⟨w.heap.size, 2, none⟩ = some (.string ⟨#[]⟩) ∧ w4.cell? ⟨w.heap.size, 3, none⟩ = some (.int .i64 0) ∧ w4.cell? ⟨w.heap.size, 4, none⟩ = some (.int .i64 0) ∧ w4.cell? ⟨w.heap.size, 5, none⟩ = some (.slice none 0 0) ∧ w4.cell? ⟨w.heap.size, 6, none⟩ = some (.slice none 0 0) := ⟨k2 0 _ rfl, k2 1 _ rfl, k2 2 _ rfl, k2 3 _ rfl, k2 4 _ rfl, k2 5 _ rfl, k2 6 _ rfl⟩
          obtain ⟨q0, q1, q2, q3, q4, q5, q6⟩ : w4.frozen? ⟨w.heap.size, 0, none⟩ = false ∧ w4.frozen? ⟨w.heap.size, 1, none⟩ = false ∧ w4.frozen? ⟨w.heap.size, 2, none⟩ = false ∧ w4.frozen? ⟨w.heap.size, 3, none⟩ = false ∧ w4.frozen? ⟨w.heap.size, 4, none⟩ = false ∧ w4.frozen? ⟨w.heap.size, 5, none⟩ = false ∧ w4.frozen? ⟨w.heap.size, 6, none⟩ = false := ⟨q2 0, q2 1, q2 2, q2 3, q2 4, q2 5, q2 6⟩
          obtain ⟨⟨c0, c1, c2, c3, c4, c5, c6⟩, f0, f1, f2, f3, f4, f5, f6⟩ := HB4.out.1.cells
          obtain ⟨ap, bp, hp, _, hcp⟩ := HB4.out.1.1.1
          obtain ⟨ag, bg, hgb, _, hcg⟩ := HB4.out.1.1.2
          have p2 : w4.cell? ⟨p, 2, none⟩ = some (.bool bp) := row_here hp 2 _ rfl
          have pf := row_free hp 2
          have g2 : w4.cell? ⟨g, 2, none⟩ = some (.bool bg) := row_here hgb 2 _ rfl
          have FIN : Hid (∀ b : Bool, (b = true ∨ ((rdTexts s st3 2).2 ≠ none ∧ i4 ≠ none)) → (b = false ∨ sdEnd s st = none) → HeadSd s p st w (.returned (.agg #[.string t1, .int .i64 n2, .string t3, .int .i64 n4, .int .i64 n5, .slice a5 6 c5', .slice a8 2 e8])) (put7 ((w4.setCell ⟨h, 6, none⟩ (.slice a8 2 e8)).setCell ⟨p, 2, none⟩ (.bool b)) w.heap.size (.string t1) (.int .i64 n2) (.string t3) (.int .i64 n4) (.int .i64 n5) (.slice a5 6 c5') (.slice a8 2 e8)) ∧ (put7 ((w4.setCell ⟨h, 6, none⟩ (.slice a8 2 e8)).setCell ⟨p, 2, none⟩ (.bool b)) w.heap.size (.string t1) (.int .i64 n2) (.string t3) (.int .i64 n4) (.int .i64 n5) (.slice a5 6 c5') (.slice a8 2 e8)).heap[w.heap.size]? = some (.cells #[.string t1, .int .i64 n2, .string t3, .int .i64 n4, .int .i64 n5, .slice a5 6 c5', .slice a8 2 e8] 26 (0, 0))) := fun b hb1 hb2 => by
            obtain ⟨m, o1, o2, o3⟩ := K2.out
            have hpw := m.2.2.2.1
            have hS : Sd s p (sdEnd s st) ((w4.setCell ⟨h, 6, none⟩ (.slice a8 2 e8)).setCell ⟨p, 2, none⟩ (.bool b)) ∧ (w4.setCell ⟨h, 6, none⟩ (.slice a8 2 e8)).grownBy ((w4.setCell ⟨h, 6, none⟩ (.slice a8 2 e8)).setCell ⟨p, 2, none⟩ (.bool b)) (some p) := by
              cases b with
              | true =>
                rcases hb2 with h | h
                · exact absurd h (by simp)
                · rw [h]; exact m.1.1.stopped (Below.refl _ _)
              | false =>
                rcases hb1 with h | h
                · exact absurd h (by simp)
                · have e : sdEnd s st = (rdTexts s st3 2).2 := by rw [HX.out.2.1, if_neg h.2]
                  rw [e]; exact m.1.1.kept h.1
            have hrow : ((w4.setCell ⟨h, 6, none⟩ (.slice a8 2 e8)).setCell ⟨p, 2, none⟩ (.bool b)).heap[w.heap.size]? = some (.cells #[.string ⟨#[]⟩, .int .i64 0, .string ⟨#[]⟩, .int .i64 0, .int .i64 0, .slice none 0 0, .slice none 0 0] 26 (0, 0)) := heap_pass (by omega) m.2.1.1
            have gp7 := put7_grown ((w4.setCell ⟨h, 6, none⟩ (.slice a8 2 e8)).setCell ⟨p, 2, none⟩ (.bool b)) w.heap.size (.string t1) (.int .i64 n2) (.string t3) (.int .i64 n4) (.int .i64 n5) (.slice a5 6 c5') (.slice a8 2 e8)
            have hph : p < h + 1 := by have := m.2.2.2.2.2.1; omega
            have hpB : p < B2 := by have := HB2.out.1; omega
            refine ⟨⟨⟨t1, t3, n2, n4, n5, EL, (rdTexts s st3 2).1⟩, _, _, 0, rfl, ⟨((o1.grown hS.2 hph).past gp7 hrow (by decide)).lower (by have := m.2.2.2.2.2.1; omega), ((o2.grown hS.2 hpB).past gp7 hrow (by decide)).lower (by have := m.2.2.2.2.2.1; have := HB2.out.1; omega)⟩, hS.1.block (gp7.block _ hS.1.lt (by simp; omega)), grown_own (row_trans m.2.2.1 hS.2) gp7 (Nat.le_refl _), HX.out.1.symm⟩, put7_row hrow _ _ _ _ _ _ _⟩
          have HSE : Hid (((rdTexts s st3 2).2 = none → sdEnd s st = none) ∧ (i4 = none → sdEnd s st = none)) := ⟨fun h => by rw [HX.out.2.1, h]; split <;> rfl, fun h => by rw [HX.out.2.1, if_pos h]⟩
          have HNE : Hid (¬ h = p ∧ ¬ h = w.heap.size ∧ ¬ p = w.heap.size ∧ ¬ g = p ∧ ¬ g = h) := (by
            have m := K2.out.1
            have := m.2.2.2.1
            have := m.2.2.2.2.2.1
            have := m.2.2.2.2.1
            have := m.2.2.2.2.2.2
            show ¬ h = p ∧ ¬ h = w.heap.size ∧ ¬ p = w.heap.size ∧ ¬ g = p ∧ ¬ g = h
            omega)
          obtain ⟨ne1, ne2, ne3, ne4, ne5⟩ := HNE.out
          unfold put7 at FIN
          clear K2 HB4 HX k2 q2 hp hgb HNE ES EN HS HTT HP HB2
          have SORT : Hid (∀ b : Bool, (b = true ∨ ((rdTexts s st3 2).2 ≠ none ∧ i4 ≠ none)) → (b = false ∨ sdEnd s st = none) → True) := fun _ _ _ => trivial
          rcases hcp with ⟨j1, rfl, _⟩ | ⟨j1, rfl⟩
          · rcases hcg with ⟨j2, rfl, _⟩ | ⟨j2, rfl⟩
            · obtain ⟨FA, FR⟩ := FIN.out false (.inr ⟨by rw [j1]; simp, by rw [j2]; simp⟩) (.inl rfl)
              have HFA : Hid (HeadSd s p st w _ _) := FA
              have HFR : Hid (_ = some (Obj.cells #[.string t1, .int .i64 n2, .string t3, .int .i64 n4, .int .i64 n5, .slice a5 6 c5', .slice a8 2 e8] 26 (0, 0))) := FR
              clear FIN HSE FA FR SORT
              obtain ⟨WF, HWF, HA, HR⟩ : ∃ WF, Hid (WF = _) ∧ Hid (HeadSd s p st w _ WF) ∧ Hid (WF.heap[w.heap.size]? = some (Obj.cells #[.string t1, .int .i64 n2, .string t3, .int .i64 n4, .int .i64 n5, .slice a5 6 c5', .slice a8 2 e8] 26 (0, 0))) := ⟨_, rfl, HFA.out, HFR.out⟩
              clear HFA HFR
              go_wp2
              rw [← HWF.out]
              have v := row_here HR.out
              obtain ⟨v0, v1, v2, v3, v4, v5, v6⟩ : WF.cell? ⟨w.heap.size, 0, none⟩ = some (.string t1) ∧ WF.cell? ⟨w.heap.size, 1, none⟩ = some (.int .i64 n2) ∧ WF.cell? ⟨w.heap.size, 2, none⟩ = some (.string t3) ∧ WF.cell? ⟨w.heap.size, 3, none⟩ = some (.int .i64 n4) ∧ WF.cell? ⟨w.heap.size, 4, none⟩ = some (.int .i64 n5) ∧ WF.cell? ⟨w.heap.size, 5, none⟩ = some (.slice a5 6 c5') ∧ WF.cell? ⟨w.heap.size, 6, none⟩ = some (.slice a8 2 e8) := ⟨v 0 _ rfl, v 1 _ rfl, v 2 _ rfl, v 3 _ rfl, v 4 _ rfl, v 5 _ rfl, v 6 _ rfl⟩
              exact bodyPost_ret (v := .agg #[.string t1, .int .i64 n2, .string t3, .int .i64 n4, .int .i64 n5, .slice a5 6 c5', .slice a8 2 e8]) (by simp [results, Try.results15, go_sem, v0, v1, v2, v3, v4, v5, v6]) rfl HA.out
            · obtain ⟨FA, FR⟩ := FIN.out true (.inl rfl) (.inr (HSE.out.2 j2))
              have HFA : Hid (HeadSd s p st w _ _) := FA
              have HFR : Hid (_ = some (Obj.cells #[.string t1, .int .i64 n2, .string t3, .int .i64 n4, .int .i64 n5, .slice a5 6 c5', .slice a8 2 e8] 26 (0, 0))) := FR
              clear FIN HSE FA FR SORT
              obtain ⟨WF, HWF, HA, HR⟩ : ∃ WF, Hid (WF = _) ∧ Hid (HeadSd s p st w _ WF) ∧ Hid (WF.heap[w.heap.size]? = some (Obj.cells #[.string t1, .int .i64 n2, .string t3, .int .i64 n4, .int .i64 n5, .slice a5 6 c5', .slice a8 2 e8] 26 (0, 0))) := ⟨_, rfl, HFA.out, HFR.out⟩
              clear HFA HFR
              go_wp2
              rw [← HWF.out]
              have v := row_here HR.out
              obtain ⟨v0, v1, v2, v3, v4, v5, v6⟩ : WF.cell? ⟨w.heap.size, 0, none⟩ = some (.string t1) ∧ WF.cell? ⟨w.heap.size, 1, none⟩ = some (.int .i64 n2) ∧ WF.cell? ⟨w.heap.size, 2, none⟩ = some (.string t3) ∧ WF.cell? ⟨w.heap.size, 3, none⟩ = some (.int .i64 n4) ∧ WF.cell? ⟨w.heap.size, 4, none⟩ = some (.int .i64 n5) ∧ WF.cell? ⟨w.heap.size, 5, none⟩ = some (.slice a5 6 c5') ∧ WF.cell? ⟨w.heap.size, 6, none⟩ = some (.slice a8 2 e8) := ⟨v 0 _ rfl, v 1 _ rfl, v 2 _ rfl, v 3 _ rfl, v 4 _ rfl, v 5 _ rfl, v 6 _ rfl⟩
              exact bodyPost_ret (v := .agg #[.string t1, .int .i64 n2, .string t3, .int .i64 n4, .int .i64 n5, .slice a5 6 c5', .slice a8 2 e8]) (by simp [results, Try.results15, go_sem, v0, v1, v2, v3, v4, v5, v6]) rfl HA.out
          · obtain ⟨FA, FR⟩ := FIN.out true (.inl rfl) (.inr (HSE.out.1 j1))
            have HFA : Hid (HeadSd s p st w _ _) := FA
            have HFR : Hid (_ = some (Obj.cells #[.string t1, .int .i64 n2, .string t3, .int .i64 n4, .int .i64 n5, .slice a5 6 c5', .slice a8 2 e8] 26 (0, 0))) := FR
            clear FIN HSE FA FR SORT
            obtain ⟨WF, HWF, HA, HR⟩ : ∃ WF, Hid (WF = _) ∧ Hid (HeadSd s p st w _ WF) ∧ Hid (WF.heap[w.heap.size]? = some (Obj.cells #[.string t1, .int .i64 n2, .string t3, .int .i64 n4, .int .i64 n5, .slice a5 6 c5', .slice a8 2 e8] 26 (0, 0))) := ⟨_, rfl, HFA.out, HFR.out⟩
            clear HFA HFR
            go_wp2
            rw [← HWF.out]
            have v := row_here HR.out
            obtain ⟨v0, v1, v2, v3, v4, v5, v6⟩ : WF.cell? ⟨w.heap.size, 0, none⟩ = some (.string t1) ∧ WF.cell? ⟨w.heap.size, 1, none⟩ = some (.int .i64 n2) ∧ WF.cell? ⟨w.heap.size, 2, none⟩ = some (.string t3) ∧ WF.cell? ⟨w.heap.size, 3, none⟩ = some (.int .i64 n4) ∧ WF.cell? ⟨w.heap.size, 4, none⟩ = some (.int .i64 n5) ∧ WF.cell? ⟨w.heap.size, 5, none⟩ = some (.slice a5 6 c5') ∧ WF.cell? ⟨w.heap.size, 6, none⟩ = some (.slice a8 2 e8) := ⟨v 0 _ rfl, v 1 _ rfl, v 2 _ rfl, v 3 _ rfl, v 4 _ rfl, v 5 _ rfl, v 6 _ rfl⟩
            exact bodyPost_ret (v := .agg #[.string t1, .int .i64 n2, .string t3, .int .i64 n4, .int .i64 n5, .slice a5 6 c5', .slice a8 2 e8]) (by simp [results, Try.results15, go_sem, v0, v1, v2, v3, v4, v5, v6]) rfl HA.out
end Go.Proofs.Ytpglcbidfghfkaa
