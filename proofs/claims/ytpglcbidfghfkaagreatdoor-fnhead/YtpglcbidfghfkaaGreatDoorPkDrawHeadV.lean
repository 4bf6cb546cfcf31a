/-
  What a drawn head is; rows of texts under stores; in between, a log and the source.
-/
import Derived.Test.YtpglcbidfghfkaaGreatDoorPkDrawSome
import Derived.Test.YtpglcbidfghfkaaGreatDoorPkHdV
import Derived.Test.YtpglcbidfghfkaaGreatDoorPkHeadSV
import Derived.Test.YtpglcbidfghfkaaGreatDoorPkRight
namespace Go.Proofs.YtpglcbidfghfkaaGreatDoor
open Go.RowKit Go.Lib
set_option linter.unusedVariables false
set_option linter.unusedSimpArgs false

/-- A store that puts a text where a text was, or anything where none was: rows of texts stay rows of texts, though they may hold another one. -/
theorem Texts.put {w : World} {B g i : Nat} {u v : Value} {l : List ByteArray} (h : Texts w B v l) (hu : (∃ s, u = .string s) ∨ ∀ s, w.cell? ⟨g, i, none⟩ ≠ some (.string s)) :
    ∃ l', l'.length = l.length ∧ Texts (w.setCell ⟨g, i, none⟩ u) B v l' := by
  obtain ⟨a, cap, rfl, hc, hcap⟩ := h
  rcases hc with h0 | ⟨b, off, rfl, hB, hcell⟩
  · exact ⟨l, rfl, a, cap, rfl, .inl h0, hcap⟩
  by_cases hin : b = g ∧ off ≤ i ∧ i < off + l.length
  · obtain ⟨rfl, h1, h2⟩ := hin
    have hci := hcell (i - off) (by omega)
    rw [show off + (i - off) = i by omega] at hci
    rcases hu with ⟨s, rfl⟩ | hu
    · refine ⟨l.set (i - off) s, List.length_set, some ⟨b, off, none⟩, cap, by rw [List.length_set], .inr ⟨b, off, rfl, hB, fun j hj => ?_⟩, by rw [List.length_set]; exact hcap⟩
      have hj2 : j < l.length := by rw [List.length_set] at hj; exact hj
      by_cases e : off + j = i
      · have ej : i - off = j := by omega
        subst e
        rw [World.cell?_setCell_same w ⟨b, off + j, none⟩ _ (hcell j hj2)]
        simp [ej]
      · rw [World.cell?_setCell_other w _ _ _ (fun q => e (by cases q; rfl))]
        rw [hcell j hj2, List.getElem_set_ne (by omega)]
    · exact absurd hci (hu _)
  · refine ⟨l, rfl, some ⟨b, off, none⟩, cap, rfl, .inr ⟨b, off, rfl, hB, fun j hj => ?_⟩, hcap⟩
    rw [World.cell?_setCell_other w _ _ _ (fun q => hin (by cases q; exact ⟨rfl, by omega, by omega⟩))]
    exact hcell j hj
theorem Texts.putOther {w : World} {B g i : Nat} {u v : Value} {l : List ByteArray} {cs : Array Value} {t : TypeId} (h : Texts w B v l) (hg : w.heap[g]? = some (.cells cs t (0, 0))) (hu : (∃ s, u = .string s) ∨ ∀ s, cs[i]? ≠ some (.string s)) :
    ∃ l', l'.length = l.length ∧ Texts (w.setCell ⟨g, i, none⟩ u) B v l' := h.put (hu.imp id fun h s => by
  simp only [World.cell?, hg]
  exact h s)
/-- A head stored where a head was. -/
theorem Texts.puts7 {w : World} {B g : Nat} {v : Value} {l : List ByteArray} {t : TypeId} {a0 a2 b0 b2 : ByteArray} {k1 k3 k4 j1 j3 j4 : IntKind} {n1 n3 n4 m1 m3 m4 : Int} {p5 p6 q5 q6 : Option Addr} {l5 c5 l6 c6 r5 s5 r6 s6 : Nat} (h : Texts w B v l) (hg : w.heap[g]? = some (.cells #[.string a0, .int k1 n1, .string a2, .int k3 n3, .int k4 n4, .slice p5 l5 c5, .slice p6 l6 c6] t (0, 0))) :
    ∃ l', l'.length = l.length ∧ Texts (((((((w.setCell ⟨g, 0, none⟩ (.string b0)).setCell ⟨g, 1, none⟩ (.int j1 m1)).setCell ⟨g, 2, none⟩ (.string b2)).setCell ⟨g, 3, none⟩ (.int j3 m3)).setCell ⟨g, 4, none⟩ (.int j4 m4)).setCell ⟨g, 5, none⟩ (.slice q5 r5 s5)).setCell ⟨g, 6, none⟩ (.slice q6 r6 s6)) B v l' := by
  have g1 := heap_put2 #[.string b0, .int k1 n1, .string a2, .int k3 n3, .int k4 n4, .slice p5 l5 c5, .slice p6 l6 c6] (i := 0) (v := .string b0) hg rfl
  have g2 := heap_put2 #[.string b0, .int j1 m1, .string a2, .int k3 n3, .int k4 n4, .slice p5 l5 c5, .slice p6 l6 c6] (i := 1) (v := .int j1 m1) g1 rfl
  have g3 := heap_put2 #[.string b0, .int j1 m1, .string b2, .int k3 n3, .int k4 n4, .slice p5 l5 c5, .slice p6 l6 c6] (i := 2) (v := .string b2) g2 rfl
  have g4 := heap_put2 #[.string b0, .int j1 m1, .string b2, .int j3 m3, .int k4 n4, .slice p5 l5 c5, .slice p6 l6 c6] (i := 3) (v := .int j3 m3) g3 rfl
  have g5 := heap_put2 #[.string b0, .int j1 m1, .string b2, .int j3 m3, .int j4 m4, .slice p5 l5 c5, .slice p6 l6 c6] (i := 4) (v := .int j4 m4) g4 rfl
  have g6 := heap_put2 #[.string b0, .int j1 m1, .string b2, .int j3 m3, .int j4 m4, .slice q5 r5 s5, .slice p6 l6 c6] (i := 5) (v := .slice q5 r5 s5) g5 rfl
  obtain ⟨x1, z1, h1⟩ := h.putOther (i := 0) (u := .string b0) hg (.inl ⟨_, rfl⟩)
  obtain ⟨x2, z2, h2⟩ := h1.putOther (i := 1) (u := .int j1 m1) g1 (.inr fun s q => by cases q)
  obtain ⟨x3, z3, h3⟩ := h2.putOther (i := 2) (u := .string b2) g2 (.inl ⟨_, rfl⟩)
  obtain ⟨x4, z4, h4⟩ := h3.putOther (i := 3) (u := .int j3 m3) g3 (.inr fun s q => by cases q)
  obtain ⟨x5, z5, h5⟩ := h4.putOther (i := 4) (u := .int j4 m4) g4 (.inr fun s q => by cases q)
  obtain ⟨x6, z6, h6⟩ := h5.putOther (i := 5) (u := .slice q5 r5 s5) g5 (.inr fun s q => by cases q)
  obtain ⟨x7, z7, h7⟩ := h6.putOther (i := 6) (u := .slice q6 r6 s6) g6 (.inr fun s q => by cases q)
  exact ⟨x7, by omega, h7⟩
/-- A head is of few texts, and its numbers are small ones of 64 bits. -/
def Hd.Few (x : Hd) : Prop := x.log.size ≤ 100 ∧ x.root.size ≤ 100 ∧ x.el.length ≤ 100 ∧ x.pl.length ≤ 100 ∧ x.Num
/-- In between: the source, a log of the call's own, and the answer's block as it was made. -/
def LI (w : World) (q : Nat) (vl : Value) (l : List ByteArray) (W : World) : Prop :=
  Src W q ∧ w.grownBy W (some q) ∧ OwnT W (w.heap.size + 1) vl l ∧ W.heap[w.heap.size]? = some (.cells #[.string ⟨#[]⟩, .int .i64 0, .string ⟨#[]⟩, .int .i64 0, .int .i64 0, .slice none 0 0, .slice none 0 0] 29 (0, 0)) ∧ q < w.heap.size
theorem LI.grow {w W W' : World} {q : Nat} {vl : Value} {l : List ByteArray} (h : LI w q vl l W) (hs : Src W' q) (hg : W.grownBy W' (some q)) : LI w q vl l W' := by
  obtain ⟨h1, h2, h3, h4, h5⟩ := h
  exact ⟨hs, grown_trans h2 hg, h3.grown hg (by omega), (hg.block _ (Array.getElem?_eq_some_iff.1 h4).1 (by simp; omega)).trans h4, h5⟩
theorem LI.below {w W W' : World} {q : Nat} {vl : Value} {l : List ByteArray} (h : LI w q vl l W) (hb : Below W.heap.size W W') : LI w q vl l W' := by
  obtain ⟨h1, h2, h3, h4, h5⟩ := h
  exact ⟨h1.below hb h1.lt, grown_below h2 (hb.mono h2.size), h3.below hb (Nat.le_refl _), (hb.block _ (Array.getElem?_eq_some_iff.1 h4).1).trans h4, h5⟩
theorem LI.alloc {w W : World} {q : Nat} {vl : Value} {l : List ByteArray} (h : LI w q vl l W) (o : Obj) : LI w q vl l (W.alloc o) := h.below ((Below.refl _ _).alloc (Nat.le_refl _) _)
theorem LI.drew {w W : World} {q : Nat} {vl : Value} {l : List ByteArray} (h : LI w q vl l W) : LI w q vl l W.drew := h.below (below_drew' (Below.refl _ _))
theorem LI.qlt {w W : World} {q : Nat} {vl : Value} {l : List ByteArray} (h : LI w q vl l W) : q < W.heap.size := h.1.lt
theorem LI.wlt {w W : World} {q : Nat} {vl : Value} {l : List ByteArray} (h : LI w q vl l W) : w.heap.size < W.heap.size := (Array.getElem?_eq_some_iff.1 h.2.2.2.1).1
/-- A row of five texts, in block b. -/
def C5 (q : Nat) (l5 : List ByteArray) (b : Nat) (W : World) : Prop := (∃ t, W.heap[b]? = some (.cells (l5.map .string).toArray t (0, 0))) ∧ q < b
theorem C5.new {q b : Nat} {W : World} {t : TypeId} (l5 : List ByteArray) (hq : q < W.heap.size) (hb : b = W.heap.size) : C5 q l5 b (W.alloc (.cells (l5.map .string).toArray t)) := by
  subst hb
  exact ⟨⟨t, heap_alloc_new W _⟩, hq⟩
theorem C5.grow {q b : Nat} {l5 : List ByteArray} {W W' : World} (h : C5 q l5 b W) (hg : W.grownBy W' (some q)) : C5 q l5 b W' := by
  obtain ⟨⟨t, h1⟩, h2⟩ := h
  exact ⟨⟨t, (hg.block _ (Array.getElem?_eq_some_iff.1 h1).1 (by simp; omega)).trans h1⟩, h2⟩
theorem C5.alloc {q b : Nat} {l5 : List ByteArray} {W : World} (h : C5 q l5 b W) (o : Obj) : C5 q l5 b (W.alloc o) := by
  obtain ⟨⟨t, h1⟩, h2⟩ := h
  exact ⟨⟨t, (heap_alloc_old W o (Array.getElem?_eq_some_iff.1 h1).1).trans h1⟩, h2⟩
theorem C5.drew {q b : Nat} {l5 : List ByteArray} {W : World} (h : C5 q l5 b W) : C5 q l5 b W.drew := h
theorem C5.cells {q b : Nat} {l5 : List ByteArray} {W : World} (h : C5 q l5 b W) (j : Nat) (hj : j < l5.length) : W.cell? ⟨b, j, none⟩ = some (.string l5[j]) := by
  obtain ⟨⟨t, h1⟩, _⟩ := h
  simp [World.cell?, h1, hj]
/-- A head's block as it was made. -/
def HAt (w : World) (b : Nat) (W : World) : Prop := W.heap[b]? = some (.cells #[.string ⟨#[]⟩, .int .i64 0, .string ⟨#[]⟩, .int .i64 0, .int .i64 0, .slice none 0 0, .slice none 0 0] 29 (0, 0)) ∧ w.heap.size < b
theorem HAt.new {w W : World} {q b : Nat} {vl : Value} {l : List ByteArray} (h : LI w q vl l W) (hb : b = W.heap.size) : HAt w b (W.alloc (.cells #[.string ⟨#[]⟩, .int .i64 0, .string ⟨#[]⟩, .int .i64 0, .int .i64 0, .slice none 0 0, .slice none 0 0] 29)) := by
  subst hb
  exact ⟨heap_alloc_new W _, h.wlt⟩
theorem HAt.grow {w W W' : World} {q b : Nat} (h : HAt w b W) (hg : W.grownBy W' (some q)) (hq : q < w.heap.size) : HAt w b W' :=
  ⟨(hg.block _ (Array.getElem?_eq_some_iff.1 h.1).1 (by have := h.2; simp; omega)).trans h.1, h.2⟩
theorem HAt.alloc {w W : World} {b : Nat} (h : HAt w b W) (o : Obj) : HAt w b (W.alloc o) := ⟨(heap_alloc_old W o (Array.getElem?_eq_some_iff.1 h.1).1).trans h.1, h.2⟩
theorem HAt.drew {w W : World} {b : Nat} (h : HAt w b W) : HAt w b W.drew := h
theorem HAt.below {w W W' : World} {b : Nat} (h : HAt w b W) (hb : Below W.heap.size W W') : HAt w b W' := ⟨(hb.block _ (Array.getElem?_eq_some_iff.1 h.1).1).trans h.1, h.2⟩
/-- A head, in block g of the call's own, the source and the answer's block beside it. -/
def HdIn (w : World) (q g : Nat) (x : Hd) (a b : Option Addr) (c d : Nat) (W : World) : Prop :=
  W.heap[g]? = some (.cells #[.string x.log, .int .i64 x.size, .string x.root, .int .i64 x.time, .int .i64 x.k, .slice a x.el.length c, .slice b x.pl.length d] 29 (0, 0)) ∧ w.heap.size < g ∧ x.In (.slice a x.el.length c) (.slice b x.pl.length d) W W.heap.size ∧ x.Few ∧ Src W q ∧ w.grownBy W (some q) ∧ W.heap[w.heap.size]? = some (.cells #[.string ⟨#[]⟩, .int .i64 0, .string ⟨#[]⟩, .int .i64 0, .int .i64 0, .slice none 0 0, .slice none 0 0] 29 (0, 0)) ∧ q < w.heap.size
def HdAt (w : World) (q : Nat) (p : Value) (W : World) : Prop :=
  ∃ (g : Nat) (x : Hd) (a b : Option Addr) (c d : Nat), p = .pointer (some ⟨g, 0, none⟩) ∧ HdIn w q g x a b c d W ∧ (0 ≤ x.size ∧ x.size ≤ 100)
theorem Texts.bySrc {w w' : World} {q : Nat} (hs : Src w q) (hg : w.grownBy w' (some q)) {B : Nat} {v : Value} {l : List ByteArray} (h : Texts w B v l) : Texts w' B v l := by
  obtain ⟨ad, cap, hv, h | ⟨b', off, e1, e2, e3⟩, hcap⟩ := h
  · exact ⟨ad, cap, hv, .inl h, hcap⟩
  · refine ⟨ad, cap, hv, .inr ⟨b', off, e1, e2, fun j hj => hg.cell (e3 j hj) ?_⟩, hcap⟩
    obtain ⟨a, len, cap, k, mix, sz, hq, _⟩ := hs
    intro e
    have e' : b' = q := by simpa using e
    subst e'
    have := e3 j hj
    simp only [World.cell?, hq] at this
    match off + j, this with
    | 0, this => simp at this
    | 1, this => simp at this
    | 2, this => simp at this
    | 3, this => simp at this
    | n + 4, this => simp at this
theorem HdIn.src {w W : World} {q g : Nat} {x : Hd} {a b : Option Addr} {c d : Nat} (h : HdIn w q g x a b c d W) : Src W q := h.2.2.2.2.1
theorem HdIn.lt {w W : World} {q g : Nat} {x : Hd} {a b : Option Addr} {c d : Nat} (h : HdIn w q g x a b c d W) : g < W.heap.size := (Array.getElem?_eq_some_iff.1 h.1).1
theorem HdIn.grow {w W W' : World} {q g : Nat} {x : Hd} {a b : Option Addr} {c d : Nat} (h : HdIn w q g x a b c d W) (hs : Src W' q) (hg : W.grownBy W' (some q)) : HdIn w q g x a b c d W' := by
  have hl := h.lt
  obtain ⟨h1, h2, h3, h4, h5, h6, h7, h8⟩ := h
  exact ⟨(hg.block _ hl (by simp; omega)).trans h1, h2, ⟨(h3.1.bySrc h5 hg).up hg.size, (h3.2.bySrc h5 hg).up hg.size⟩, h4, hs, grown_trans h6 hg, (hg.block _ (by omega) (by simp; omega)).trans h7, h8⟩
theorem HdIn.below {w W W' : World} {q g : Nat} {x : Hd} {a b : Option Addr} {c d : Nat} (h : HdIn w q g x a b c d W) (hb : Below W.heap.size W W') : HdIn w q g x a b c d W' := by
  have hl := h.lt
  obtain ⟨h1, h2, h3, h4, h5, h6, h7, h8⟩ := h
  exact ⟨(hb.block _ hl).trans h1, h2, h3.on hb, h4, h5.below hb h5.lt, grown_below h6 (hb.mono h6.size), (hb.block _ (by omega)).trans h7, h8⟩
theorem HdIn.drew {w W : World} {q g : Nat} {x : Hd} {a b : Option Addr} {c d : Nat} (h : HdIn w q g x a b c d W) : HdIn w q g x a b c d W.drew := h.below (below_drew' (Below.refl _ _))
theorem HdIn.alloc {w W : World} {q g : Nat} {x : Hd} {a b : Option Addr} {c d : Nat} (h : HdIn w q g x a b c d W) (o : Obj) : HdIn w q g x a b c d (W.alloc o) := h.below ((Below.refl _ _).alloc (Nat.le_refl _) _)
/-- What lies there: the head's cells, the answer's block, and that they are two. -/
theorem HdIn.cells {w W : World} {q g : Nat} {x : Hd} {a b : Option Addr} {c d : Nat} (h : HdIn w q g x a b c d W) : ((W.cell? ⟨g, 0, none⟩ = some (.string x.log) ∧ W.cell? ⟨g, 1, none⟩ = some (.int .i64 x.size) ∧ W.cell? ⟨g, 2, none⟩ = some (.string x.root) ∧ W.cell? ⟨g, 3, none⟩ = some (.int .i64 x.time) ∧ W.cell? ⟨g, 4, none⟩ = some (.int .i64 x.k) ∧ W.cell? ⟨g, 5, none⟩ = some (.slice a x.el.length c) ∧ W.cell? ⟨g, 6, none⟩ = some (.slice b x.pl.length d)) ∧ (W.frozen? ⟨g, 0, none⟩ = false ∧ W.frozen? ⟨g, 1, none⟩ = false ∧ W.frozen? ⟨g, 2, none⟩ = false ∧ W.frozen? ⟨g, 3, none⟩ = false ∧ W.frozen? ⟨g, 4, none⟩ = false ∧ W.frozen? ⟨g, 5, none⟩ = false ∧ W.frozen? ⟨g, 6, none⟩ = false)) ∧ ((W.cell? ⟨w.heap.size, 0, none⟩ = some (.string ⟨#[]⟩) ∧ W.cell? ⟨w.heap.size, 1, none⟩ = some (.int .i64 0) ∧ W.cell? ⟨w.heap.size, 2, none⟩ = some (.string ⟨#[]⟩) ∧ W.cell? ⟨w.heap.size, 3, none⟩ = some (.int .i64 0) ∧ W.cell? ⟨w.heap.size, 4, none⟩ = some (.int .i64 0) ∧ W.cell? ⟨w.heap.size, 5, none⟩ = some (.slice none 0 0) ∧ W.cell? ⟨w.heap.size, 6, none⟩ = some (.slice none 0 0)) ∧ (W.frozen? ⟨w.heap.size, 0, none⟩ = false ∧ W.frozen? ⟨w.heap.size, 1, none⟩ = false ∧ W.frozen? ⟨w.heap.size, 2, none⟩ = false ∧ W.frozen? ⟨w.heap.size, 3, none⟩ = false ∧ W.frozen? ⟨w.heap.size, 4, none⟩ = false ∧ W.frozen? ⟨w.heap.size, 5, none⟩ = false ∧ W.frozen? ⟨w.heap.size, 6, none⟩ = false)) ∧ ¬ w.heap.size = g ∧ ¬ g = w.heap.size := by
  have hl := h.2.1
  have c1 := row_here h.1
  have f := row_free h.1
  have c2 := row_here h.2.2.2.2.2.2.1
  have f2 := row_free h.2.2.2.2.2.2.1
  exact ⟨⟨⟨c1 0 _ rfl, c1 1 _ rfl, c1 2 _ rfl, c1 3 _ rfl, c1 4 _ rfl, c1 5 _ rfl, c1 6 _ rfl⟩, f 0, f 1, f 2, f 3, f 4, f 5, f 6⟩, ⟨⟨c2 0 _ rfl, c2 1 _ rfl, c2 2 _ rfl, c2 3 _ rfl, c2 4 _ rfl, c2 5 _ rfl, c2 6 _ rfl⟩, f2 0, f2 1, f2 2, f2 3, f2 4, f2 5, f2 6⟩, by omega, by omega⟩
theorem HdIn.put {w W : World} {q g : Nat} {x y : Hd} {a b a' b' : Option Addr} {c d c' d' : Nat} (h : HdIn w q g x a b c d W) {i : Nat} {u : Value} (hu : (∃ s, u = .string s ∧ (i = 0 ∨ i = 2)) ∨ ((∀ s, u ≠ .string s) ∧ i ≠ 0 ∧ i ≠ 2))
    (hc : (#[.string x.log, .int .i64 x.size, .string x.root, .int .i64 x.time, .int .i64 x.k, .slice a x.el.length c, .slice b x.pl.length d] : Array Value).setIfInBounds i u = #[.string y.log, .int .i64 y.size, .string y.root, .int .i64 y.time, .int .i64 y.k, .slice a' y.el.length c', .slice b' y.pl.length d']) (hy : y.Few) (hin : y.In (.slice a' y.el.length c') (.slice b' y.pl.length d') W W.heap.size) :
    ∃ z : Hd, z.log = y.log ∧ z.root = y.root ∧ z.size = y.size ∧ z.time = y.time ∧ z.k = y.k ∧ z.el.length = y.el.length ∧ z.pl.length = y.pl.length ∧ HdIn w q g z a' b' c' d' (W.setCell ⟨g, i, none⟩ u) := by
  obtain ⟨h1, h2, h3, h4, h5, h6, h7, h8⟩ := h
  have hun : (∃ s, u = .string s) ∨ ∀ s, (#[.string x.log, .int .i64 x.size, .string x.root, .int .i64 x.time, .int .i64 x.k, .slice a x.el.length c, .slice b x.pl.length d] : Array Value)[i]? ≠ some (.string s) := by
    rcases hu with ⟨s, e, _⟩ | ⟨_, n0, n2⟩
    · exact .inl ⟨s, e⟩
    · refine .inr fun s e => ?_
      match i, n0, n2, e with
      | 1, _, _, e => simp at e
      | 3, _, _, e => simp at e
      | 4, _, _, e => simp at e
      | 5, _, _, e => simp at e
      | 6, _, _, e => simp at e
      | n + 7, _, _, e => simp at e
  obtain ⟨l1, z1, t1⟩ := hin.1.putOther h1 hun
  obtain ⟨l2, z2, t2⟩ := hin.2.putOther h1 hun
  have hb : Below (w.heap.size + 1) W (W.setCell ⟨g, i, none⟩ u) := (Below.refl _ _).setCell (by simp; omega) _
  have hk : (W.setCell ⟨g, i, none⟩ u).heap[g]? = some (Obj.cells #[.string y.log, .int .i64 y.size, .string y.root, .int .i64 y.time, .int .i64 y.k, .slice a' y.el.length c', .slice b' y.pl.length d'] 29 (0, 0)) := heap_put2 _ h1 hc
  refine ⟨⟨y.log, y.root, y.size, y.time, y.k, l1, l2⟩, rfl, rfl, rfl, rfl, rfl, z1, z2, ?_, h2, ⟨?_, ?_⟩, ?_, h5.below hb (by omega), grown_below h6 (hb.mono (by omega)), (hb.block _ (by omega)).trans h7, h8⟩
  · show _ = some (Obj.cells #[.string y.log, .int .i64 y.size, .string y.root, .int .i64 y.time, .int .i64 y.k, .slice a' l1.length c', .slice b' l2.length d'] 29 (0, 0))
    rw [z1, z2]
    exact hk
  · show Texts _ _ (.slice a' l1.length c') l1
    rw [z1, size_put]
    exact t1
  · show Texts _ _ (.slice b' l2.length d') l2
    rw [z2, size_put]
    exact t2
  · exact ⟨hy.1, hy.2.1, by show l1.length ≤ 100; rw [z1]; exact hy.2.2.1, by show l2.length ≤ 100; rw [z2]; exact hy.2.2.2.1, hy.2.2.2.2⟩
/-- A head, however it is; the source stays one, and nothing else has turned. -/
def HdDrawn (q : Nat) (w : World) (e : Ending) (w' : World) : Prop :=
  ∃ (x : Hd) (a b : Option Addr) (c d : Nat), e = .returned (.agg #[.string x.log, .int .i64 x.size, .string x.root, .int .i64 x.time, .int .i64 x.k, .slice a x.el.length c, .slice b x.pl.length d]) ∧ x.In (.slice a x.el.length c) (.slice b x.pl.length d) w' w'.heap.size ∧ x.Few ∧ Src w' q ∧ w.grownBy w' (some q)
theorem HAt.cells {w W : World} {b : Nat} (h : HAt w b W) : (W.cell? ⟨b, 0, none⟩ = some (.string ⟨#[]⟩) ∧ W.cell? ⟨b, 1, none⟩ = some (.int .i64 0) ∧ W.cell? ⟨b, 2, none⟩ = some (.string ⟨#[]⟩) ∧ W.cell? ⟨b, 3, none⟩ = some (.int .i64 0) ∧ W.cell? ⟨b, 4, none⟩ = some (.int .i64 0) ∧ W.cell? ⟨b, 5, none⟩ = some (.slice none 0 0) ∧ W.cell? ⟨b, 6, none⟩ = some (.slice none 0 0)) ∧ (W.frozen? ⟨b, 0, none⟩ = false ∧ W.frozen? ⟨b, 1, none⟩ = false ∧ W.frozen? ⟨b, 2, none⟩ = false ∧ W.frozen? ⟨b, 3, none⟩ = false ∧ W.frozen? ⟨b, 4, none⟩ = false ∧ W.frozen? ⟨b, 5, none⟩ = false ∧ W.frozen? ⟨b, 6, none⟩ = false) := by
  have c := row_here h.1
  have f := row_free h.1
  exact ⟨⟨c 0 _ rfl, c 1 _ rfl, c 2 _ rfl, c 3 _ rfl, c 4 _ rfl, c 5 _ rfl, c 6 _ rfl⟩, f 0, f 1, f 2, f 3, f 4, f 5, f 6⟩
theorem HdAt.fresh {w W : World} {q : Nat} {vl : Value} {l : List ByteArray} {x : Hd} {a b : Option Addr} {c d : Nat} (h : x.In (.slice a x.el.length c) (.slice b x.pl.length d) W W.heap.size ∧ x.Few ∧ 0 ≤ x.size ∧ x.size ≤ 100) (hi : LI w q vl l W) :
    HdAt w q (.pointer (some ⟨W.heap.size, 0, none⟩)) (W.alloc (.cells #[.string x.log, .int .i64 x.size, .string x.root, .int .i64 x.time, .int .i64 x.k, .slice a x.el.length c, .slice b x.pl.length d] 29)) := by
  have hb : Below W.heap.size W (W.alloc (.cells #[.string x.log, .int .i64 x.size, .string x.root, .int .i64 x.time, .int .i64 x.k, .slice a x.el.length c, .slice b x.pl.length d] 29)) := (Below.refl _ _).alloc (Nat.le_refl _) _
  have hj := hi.below hb
  exact ⟨_, x, a, b, c, d, rfl, ⟨heap_alloc_new W _, hi.wlt, h.1.on hb, h.2.1, hj.1, hj.2.1, hj.2.2.2.1, hj.2.2.2.2⟩, h.2.2⟩
theorem HdAt.stored {w W : World} {q : Nat} {vl : Value} {l : List ByteArray} {x : Hd} {a b : Option Addr} {c d : Nat} (h : x.In (.slice a x.el.length c) (.slice b x.pl.length d) W W.heap.size ∧ x.Few ∧ 0 ≤ x.size ∧ x.size ≤ 100) (hi : LI w q vl l W) :
    ∀ g, HAt w g W → HdAt w q (.pointer (some ⟨g, 0, none⟩)) (((((((W.setCell ⟨g, 0, none⟩ (.string x.log)).setCell ⟨g, 1, none⟩ (.int .i64 x.size)).setCell ⟨g, 2, none⟩ (.string x.root)).setCell ⟨g, 3, none⟩ (.int .i64 x.time)).setCell ⟨g, 4, none⟩ (.int .i64 x.k)).setCell ⟨g, 5, none⟩ (.slice a x.el.length c)).setCell ⟨g, 6, none⟩ (.slice b x.pl.length d)) := fun g hg => by
  obtain ⟨⟨h1, h2⟩, h3, h4⟩ := h
  obtain ⟨l1, z1, t1⟩ := h1.puts7 (b0 := x.log) (j1 := .i64) (m1 := x.size) (b2 := x.root) (j3 := .i64) (m3 := x.time) (j4 := .i64) (m4 := x.k) (q5 := a) (r5 := x.el.length) (s5 := c) (q6 := b) (r6 := x.pl.length) (s6 := d) hg.1
  obtain ⟨l2, z2, t2⟩ := h2.puts7 (b0 := x.log) (j1 := .i64) (m1 := x.size) (b2 := x.root) (j3 := .i64) (m3 := x.time) (j4 := .i64) (m4 := x.k) (q5 := a) (r5 := x.el.length) (s5 := c) (q6 := b) (r6 := x.pl.length) (s6 := d) hg.1
  have hb : Below (w.heap.size + 1) W (((((((W.setCell ⟨g, 0, none⟩ (.string x.log)).setCell ⟨g, 1, none⟩ (.int .i64 x.size)).setCell ⟨g, 2, none⟩ (.string x.root)).setCell ⟨g, 3, none⟩ (.int .i64 x.time)).setCell ⟨g, 4, none⟩ (.int .i64 x.k)).setCell ⟨g, 5, none⟩ (.slice a x.el.length c)).setCell ⟨g, 6, none⟩ (.slice b x.pl.length d)) := by
    iterate 7 (refine Below.setCell ?_ (by have := hg.2; simp; omega) _)
    exact Below.refl _ _
  have hsz : ((((((((W.setCell ⟨g, 0, none⟩ (.string x.log)).setCell ⟨g, 1, none⟩ (.int .i64 x.size)).setCell ⟨g, 2, none⟩ (.string x.root)).setCell ⟨g, 3, none⟩ (.int .i64 x.time)).setCell ⟨g, 4, none⟩ (.int .i64 x.k)).setCell ⟨g, 5, none⟩ (.slice a x.el.length c)).setCell ⟨g, 6, none⟩ (.slice b x.pl.length d))).heap.size = W.heap.size := by simp only [size_put]
  have hk : ((((((((W.setCell ⟨g, 0, none⟩ (.string x.log)).setCell ⟨g, 1, none⟩ (.int .i64 x.size)).setCell ⟨g, 2, none⟩ (.string x.root)).setCell ⟨g, 3, none⟩ (.int .i64 x.time)).setCell ⟨g, 4, none⟩ (.int .i64 x.k)).setCell ⟨g, 5, none⟩ (.slice a x.el.length c)).setCell ⟨g, 6, none⟩ (.slice b x.pl.length d))).heap[g]? = some (Obj.cells #[.string x.log, .int .i64 x.size, .string x.root, .int .i64 x.time, .int .i64 x.k, .slice a x.el.length c, .slice b x.pl.length d] 29 (0, 0)) := heap_put2 #[.string x.log, .int .i64 x.size, .string x.root, .int .i64 x.time, .int .i64 x.k, .slice a x.el.length c, .slice b x.pl.length d] (heap_put2 #[.string x.log, .int .i64 x.size, .string x.root, .int .i64 x.time, .int .i64 x.k, .slice a x.el.length c, .slice none 0 0] (heap_put2 #[.string x.log, .int .i64 x.size, .string x.root, .int .i64 x.time, .int .i64 x.k, .slice none 0 0, .slice none 0 0] (heap_put2 #[.string x.log, .int .i64 x.size, .string x.root, .int .i64 x.time, .int .i64 0, .slice none 0 0, .slice none 0 0] (heap_put2 #[.string x.log, .int .i64 x.size, .string x.root, .int .i64 0, .int .i64 0, .slice none 0 0, .slice none 0 0] (heap_put2 #[.string x.log, .int .i64 x.size, .string ⟨#[]⟩, .int .i64 0, .int .i64 0, .slice none 0 0, .slice none 0 0] (heap_put2 #[.string x.log, .int .i64 0, .string ⟨#[]⟩, .int .i64 0, .int .i64 0, .slice none 0 0, .slice none 0 0] (hg.1) rfl) rfl) rfl) rfl) rfl) rfl) rfl
  refine ⟨g, ⟨x.log, x.root, x.size, x.time, x.k, l1, l2⟩, a, b, c, d, rfl, ⟨?_, hg.2, ⟨?_, ?_⟩, ?_, hi.1.below hb (by have := hi.2.2.2.2; omega), grown_below hi.2.1 (hb.mono (by have := hi.2.2.2.2; omega)), (hb.block _ (by omega)).trans hi.2.2.2.1, hi.2.2.2.2⟩, h4⟩
  · show _ = some (Obj.cells #[.string x.log, .int .i64 x.size, .string x.root, .int .i64 x.time, .int .i64 x.k, .slice a l1.length c, .slice b l2.length d] 29 (0, 0))
    rw [z1, z2]
    exact hk
  · show Texts _ _ (.slice a l1.length c) l1
    rw [z1, hsz]
    exact t1
  · show Texts _ _ (.slice b l2.length d) l2
    rw [z2, hsz]
    exact t2
  · exact ⟨h3.1, h3.2.1, by show l1.length ≤ 100; rw [z1]; exact h3.2.2.1, by show l2.length ≤ 100; rw [z2]; exact h3.2.2.2.1, h3.2.2.2.2⟩
theorem HdIn.answer {w W : World} {q g : Nat} {x : Hd} {a b : Option Addr} {c d : Nat} (h : HdIn w q g x a b c d W) : HdDrawn q w (.returned (.agg #[.string x.log, .int .i64 x.size, .string x.root, .int .i64 x.time, .int .i64 x.k, .slice a x.el.length c, .slice b x.pl.length d])) (((((((W.setCell ⟨w.heap.size, 0, none⟩ (.string x.log)).setCell ⟨w.heap.size, 1, none⟩ (.int .i64 x.size)).setCell ⟨w.heap.size, 2, none⟩ (.string x.root)).setCell ⟨w.heap.size, 3, none⟩ (.int .i64 x.time)).setCell ⟨w.heap.size, 4, none⟩ (.int .i64 x.k)).setCell ⟨w.heap.size, 5, none⟩ (.slice a x.el.length c)).setCell ⟨w.heap.size, 6, none⟩ (.slice b x.pl.length d)) := by
  obtain ⟨h1, h2, h3, h4, h5, h6, h7, h8⟩ := h
  obtain ⟨l1, z1, t1⟩ := h3.1.puts7 (b0 := x.log) (j1 := .i64) (m1 := x.size) (b2 := x.root) (j3 := .i64) (m3 := x.time) (j4 := .i64) (m4 := x.k) (q5 := a) (r5 := x.el.length) (s5 := c) (q6 := b) (r6 := x.pl.length) (s6 := d) h7
  obtain ⟨l2, z2, t2⟩ := h3.2.puts7 (b0 := x.log) (j1 := .i64) (m1 := x.size) (b2 := x.root) (j3 := .i64) (m3 := x.time) (j4 := .i64) (m4 := x.k) (q5 := a) (r5 := x.el.length) (s5 := c) (q6 := b) (r6 := x.pl.length) (s6 := d) h7
  have hb : Below w.heap.size W (((((((W.setCell ⟨w.heap.size, 0, none⟩ (.string x.log)).setCell ⟨w.heap.size, 1, none⟩ (.int .i64 x.size)).setCell ⟨w.heap.size, 2, none⟩ (.string x.root)).setCell ⟨w.heap.size, 3, none⟩ (.int .i64 x.time)).setCell ⟨w.heap.size, 4, none⟩ (.int .i64 x.k)).setCell ⟨w.heap.size, 5, none⟩ (.slice a x.el.length c)).setCell ⟨w.heap.size, 6, none⟩ (.slice b x.pl.length d)) := by
    iterate 7 (refine Below.setCell ?_ (by simp) _)
    exact Below.refl _ _
  have hsz : ((((((((W.setCell ⟨w.heap.size, 0, none⟩ (.string x.log)).setCell ⟨w.heap.size, 1, none⟩ (.int .i64 x.size)).setCell ⟨w.heap.size, 2, none⟩ (.string x.root)).setCell ⟨w.heap.size, 3, none⟩ (.int .i64 x.time)).setCell ⟨w.heap.size, 4, none⟩ (.int .i64 x.k)).setCell ⟨w.heap.size, 5, none⟩ (.slice a x.el.length c)).setCell ⟨w.heap.size, 6, none⟩ (.slice b x.pl.length d))).heap.size = W.heap.size := by simp only [size_put]
  refine ⟨⟨x.log, x.root, x.size, x.time, x.k, l1, l2⟩, a, b, c, d, ?_, ⟨?_, ?_⟩, ?_, h5.below hb h8, grown_below h6 hb⟩
  · show Ending.returned (.agg #[.string x.log, .int .i64 x.size, .string x.root, .int .i64 x.time, .int .i64 x.k, .slice a x.el.length c, .slice b x.pl.length d]) = .returned (.agg #[.string x.log, .int .i64 x.size, .string x.root, .int .i64 x.time, .int .i64 x.k, .slice a l1.length c, .slice b l2.length d])
    rw [z1, z2]
  · show Texts _ _ (.slice a l1.length c) l1
    rw [z1, hsz]
    exact t1
  · show Texts _ _ (.slice b l2.length d) l2
    rw [z2, hsz]
    exact t2
  · exact ⟨h4.1, h4.2.1, by show l1.length ≤ 100; rw [z1]; exact h4.2.2.1, by show l2.length ≤ 100; rw [z2]; exact h4.2.2.2.1, h4.2.2.2.2⟩
theorem HdIn.answerPut {w W : World} {q g : Nat} {x y : Hd} {a b a' b' : Option Addr} {c d c' d' : Nat} (h : HdIn w q g x a b c d W) {i : Nat} {u : Value} (hu : (∃ s, u = .string s ∧ (i = 0 ∨ i = 2)) ∨ ((∀ s, u ≠ .string s) ∧ i ≠ 0 ∧ i ≠ 2))
    (hc : (#[.string x.log, .int .i64 x.size, .string x.root, .int .i64 x.time, .int .i64 x.k, .slice a x.el.length c, .slice b x.pl.length d] : Array Value).setIfInBounds i u = #[.string y.log, .int .i64 y.size, .string y.root, .int .i64 y.time, .int .i64 y.k, .slice a' y.el.length c', .slice b' y.pl.length d']) (hy : y.Few) (hin : y.In (.slice a' y.el.length c') (.slice b' y.pl.length d') W W.heap.size) :
    HdDrawn q w (.returned (.agg #[.string y.log, .int .i64 y.size, .string y.root, .int .i64 y.time, .int .i64 y.k, .slice a' y.el.length c', .slice b' y.pl.length d'])) ((((((((W.setCell ⟨g, i, none⟩ u).setCell ⟨w.heap.size, 0, none⟩ (.string y.log)).setCell ⟨w.heap.size, 1, none⟩ (.int .i64 y.size)).setCell ⟨w.heap.size, 2, none⟩ (.string y.root)).setCell ⟨w.heap.size, 3, none⟩ (.int .i64 y.time)).setCell ⟨w.heap.size, 4, none⟩ (.int .i64 y.k)).setCell ⟨w.heap.size, 5, none⟩ (.slice a' y.el.length c')).setCell ⟨w.heap.size, 6, none⟩ (.slice b' y.pl.length d')) := by
  obtain ⟨z, e1, e2, e3, e4, e5, e6, e7, hz⟩ := h.put hu hc hy hin
  have hA := hz.answer
  rw [e1, e2, e3, e4, e5, e6, e7] at hA
  exact hA
theorem HdIn.answerSig {w W : World} {q g : Nat} {x : Hd} {a b a' b' : Option Addr} {c d c' d' : Nat} {k' : Int} {e1 p1 : List ByteArray} (h : HdIn w q g x a b c d W) (h1 : Texts W W.heap.size (.slice a' e1.length c') e1) (h2 : Texts W W.heap.size (.slice b' p1.length d') p1) (z1 : e1.length ≤ 100) (z2 : p1.length ≤ 100) :
    HdDrawn q w (.returned (.agg #[.string x.log, .int .i64 x.size, .string x.root, .int .i64 x.time, .int .i64 k', .slice a' e1.length c', .slice b' p1.length d'])) ((((((((((W.setCell ⟨g, 4, none⟩ (.int .i64 k')).setCell ⟨g, 5, none⟩ (.slice a' e1.length c')).setCell ⟨g, 6, none⟩ (.slice b' p1.length d')).setCell ⟨w.heap.size, 0, none⟩ (.string x.log)).setCell ⟨w.heap.size, 1, none⟩ (.int .i64 x.size)).setCell ⟨w.heap.size, 2, none⟩ (.string x.root)).setCell ⟨w.heap.size, 3, none⟩ (.int .i64 x.time)).setCell ⟨w.heap.size, 4, none⟩ (.int .i64 k')).setCell ⟨w.heap.size, 5, none⟩ (.slice a' e1.length c')).setCell ⟨w.heap.size, 6, none⟩ (.slice b' p1.length d')) := by
  obtain ⟨y, u1, u2, u3, u4, u5, u6, u7, hy⟩ := h.put (y := ⟨x.log, x.root, x.size, x.time, k', x.el, x.pl⟩) (a' := a) (b' := b) (c' := c) (d' := d) (i := 4) (u := .int .i64 k') (.inr ⟨fun s e => (by cases e), by decide, by decide⟩) rfl h.2.2.2.1 h.2.2.1
  obtain ⟨l1, v1, t1⟩ := h1.putOther (i := 4) (u := .int .i64 k') h.1 (.inr fun s e => by simp at e)
  obtain ⟨l2, v2, t2⟩ := h2.putOther (i := 4) (u := .int .i64 k') h.1 (.inr fun s e => by simp at e)
  rw [← v1] at t1
  rw [← v2] at t2
  obtain ⟨y2, m1, m2, m3, m4, m5, m6, m7, hy2⟩ := hy.put (y := ⟨y.log, y.root, y.size, y.time, y.k, l1, y.pl⟩) (a' := a') (b' := b) (c' := c') (d' := d) (i := 5) (u := .slice a' l1.length c') (.inr ⟨fun s e => (by cases e), by decide, by decide⟩) rfl ⟨hy.2.2.2.1.1, hy.2.2.2.1.2.1, (by show l1.length ≤ 100; omega), hy.2.2.2.1.2.2.2.1, hy.2.2.2.1.2.2.2.2⟩ ⟨by rw [size_put]; exact t1, hy.2.2.1.2⟩
  obtain ⟨l3, v3, t3⟩ := t2.putOther (i := 5) (u := .slice a' l1.length c') hy.1 (.inr fun s e => by simp at e)
  rw [← v3] at t3
  obtain ⟨y3, n1, n2, n3, n4, n5, n6, n7, hy3⟩ := hy2.put (y := ⟨y2.log, y2.root, y2.size, y2.time, y2.k, y2.el, l3⟩) (a' := a') (b' := b') (c' := c') (d' := d') (i := 6) (u := .slice b' l3.length d') (.inr ⟨fun s e => (by cases e), by decide, by decide⟩) rfl ⟨hy2.2.2.2.1.1, hy2.2.2.2.1.2.1, hy2.2.2.2.1.2.2.1, (by show l3.length ≤ 100; omega), hy2.2.2.2.1.2.2.2.2⟩ ⟨hy2.2.2.1.1, by rw [size_put, size_put]; exact t3⟩
  have hA := hy3.answer
  have o1 : y3.el.length = e1.length := n6.trans (m6.trans v1)
  have o2 : y3.pl.length = p1.length := n7.trans (v3.trans v2)
  rw [o1, o2, n1, n2, n3, n4, n5] at hA
  simp only [m1, m2, m3, m4, m5, u1, u2, u3, u4, u5, v1, v2, v3] at hA
  exact hA
/-- The document's HeadSign hands back few texts. -/
theorem hs_few (s : ByteArray) (k : Int) (log : ByteArray) (l : List ByteArray) (t : Int) (hlog : log.size ≤ 100) (hl : l.length ≤ 100) (ht : 0 ≤ t ∧ t ≤ 1000) :
    (Hd.mk (hsLog s k log l t) (hsRoot s k log l t) (hsSize s k log l t) (hsTime s k log l t) (hsKey s k log l t) (hsEnds s k log l t) (hsPath s k log l t)).Few ∧ 0 ≤ hsSize s k log l t ∧ hsSize s k log l t ≤ 100 := by
  unfold hsLog hsRoot hsSize hsTime hsKey hsEnds hsPath Hd.Few Hd.Num
  by_cases h : hsB s k log l t = true
  · simp only [if_pos h]
    refine ⟨⟨hlog, by rw [treeB_size]; omega, by rw [ends_six]; omega, by rw [(path_pubs _ _).1]; omega, by omega, by omega⟩, by omega, by omega⟩
  · simp only [if_neg h]
    refine ⟨⟨by decide, by decide, by decide, by decide, by decide, by decide⟩, by decide, by decide⟩
end Go.Proofs.YtpglcbidfghfkaaGreatDoor
