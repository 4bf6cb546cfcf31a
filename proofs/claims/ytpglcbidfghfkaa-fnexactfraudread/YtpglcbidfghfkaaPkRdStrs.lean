/-
  The program's reading of a row of texts.
-/
import Derived.Test.YtpglcbidfghfkaaPkRdNum
import Derived.Test.YtpglcbidfghfkaaPkMarks
import Derived.Test.YtpglcbidfghfkaaPkStepLaws
import Derived.Test.YtpglcbidfghfkaaPkHeadMark
import Derived.Test.YtpglcbidfghfkaaPkHdV
import Derived.Test.YtpglcbidfghfkaaPkReadBack
namespace Go.Proofs.Ytpglcbidfghfkaa
open Go.RowKit Go.Lib
set_option linter.unusedVariables false
set_option linter.unusedSimpArgs false

def lenOf : Value → Nat
  | .slice _ n _ => n
  | _ => 0
/-- In between: k texts are read. -/
def RdMid (s : ByteArray) (p : Nat) (st : Option Int) (w : World) (k : Nat) (v : Value) (W : World) : Prop :=
  OwnT W w.heap.size v (rdTexts s st k).1 ∧ Rd s p (rdTexts s st k).2 W ∧ w.grownBy W (some p)
def StrsAns (s : ByteArray) (p : Nat) (st : Option Int) (n : Int) (w : World) (e : Ending) (w' : World) : Prop :=
  ∃ (v : Value) (j : Nat), e = .returned v ∧ j ≤ n.toNat ∧ j ≤ 20001 ∧ RdMid s p st w j v w' ∧ (j = n.toNat ∨ (rdTexts s st j).2 = none)
theorem grown_then {a b c : World} {r : Option Nat} (h : a.grownBy b r) (k : Below a.heap.size b c) : a.grownBy c r :=
  ⟨k.os.trans h.os, k.tape.trans h.tape, k.output.trans h.output, Nat.le_trans h.size k.size, fun i hi hne => (k.block i hi).trans (h.block i hi hne)⟩

set_option maxHeartbeats 2000000 in
theorem strs_any (s : ByteArray) (hs : ¬ 20000 < (s.size : Int)) (p : Nat) (st : Option Int) (n : Int) (w : World) (h : Rd s p st w) (hn : n ≤ 9223372036854775807) :
    Calls Try.prog 44 #[.pointer (some ⟨p, 0, none⟩), .int .i64 n] w fun e w' => StrsAns s p st n w e w' := by
  have hlt := h.lt
  have HP : Hid (p < w.heap.size) := hlt
  have H0 : Hid (RdMid s p st w 0 (.slice none 0 0) w) := ⟨OwnT.nil _ _, h, rd_refl _ _⟩
  have HE : Hid (∀ st W, Rd s p st W → Calls Try.prog 67 #[.pointer (some ⟨p, 0, none⟩)] W fun e w' => e = .returned (.string (rdText s st).1) ∧ Rd s p (rdText s st).2 w' ∧ W.grownBy w' (some p)) := fun st W h => str_any s hs p st W h
  have HW : Hid (Within s st) := h.within
  have HZ : Hid (s.size ≤ 20000) := (by show s.size ≤ 20000; omega)
  clear h hlt hs
  go_enter Try.func44, Try.ntmps44
  go_wp2
  go_loopw [5] (fun t wr => ∃ k : Nat, k ≤ n.toNat ∧ k ≤ 20001 ∧ RdMid s p st w k t wr) (fun t _ => 20002 - lenOf t)
  case atStart => exact ⟨0, Nat.zero_le _, by omega, H0.out⟩
  case round =>
    obtain ⟨k, hk, hk2, hmid⟩ := hrel
    obtain ⟨hown, hrd, hgr⟩ := id hmid
    obtain ⟨ar, cr, hu⟩ := hown.len
    rw [rdTexts_length] at hu
    subst hu
    have HM : Hid (RdMid s p st w k (.slice ar k cr) wr) := hmid
    have hlen : (rdTexts s st k).1.length = k := rdTexts_length s st k
    have hwi := rdTexts_within HW.out k
    have hle : ∀ a, (rdTexts s st k).2 = some a → k ≤ 20000 := fun a ha => by
      have h1 := hwi a ha
      have h2 := HZ.out
      cases hst : st with
      | none => rw [hst] at ha; rw [rdTexts_stuck] at ha; exact absurd ha (by simp)
      | some k0 =>
        have h3 := HW.out k0 hst
        rw [hst] at ha
        have := rdTexts_on k a ha
        omega
    obtain ⟨a, v, hp, hst⟩ := id hrd
    obtain ⟨⟨c0, c1, c2⟩, f1, f2⟩ := Rd.cells hp
    by_cases hlt : (k : Int) < n
    · rcases hst with ⟨e1, rfl, h0, h1⟩ | ⟨e1, c, rfl⟩
      · have hk3 : k ≤ 20000 := hle a e1
        have F := HE.out (rdTexts s st k).2 wr hrd
        have HF : Hid (Calls Try.prog 67 #[.pointer (some ⟨p, 0, none⟩)] wr fun e w' => e = .returned (.string (rdText s (rdTexts s st k).2).1) ∧ Rd s p (rdTexts s st (k + 1)).2 w' ∧ wr.grownBy w' (some p)) := F
        have HL : Hid ((rdTexts s st k).1 ++ [(rdText s (rdTexts s st k).2).1] = (rdTexts s st (k + 1)).1) := rfl
        clear hown hrd hgr hmid F hwi hle hp e1
        generalize (rdText s (rdTexts s st k).2).1 = t at *
        go_wp2_with fail
        refine HF.out.mono ?_
        rintro e w1 ⟨rfl, hrd1, hg1⟩
        have HO1 : Hid (OwnT w1 w.heap.size (.slice ar k cr) (rdTexts s st k).1 ∧ Rd s p (rdTexts s st (k + 1)).2 w1 ∧ w.grownBy w1 (some p)) := ⟨HM.out.1.grown hg1 HP.out, hrd1, row_trans HM.out.2.2 hg1⟩
        have hown1 := HO1.out.1
        have hszw := HO1.out.2.2.size
        have hll : (rdTexts s st k).1.length ≤ 1048576 := by omega
        clear hrd1 hg1 HM HF hlen
        go_wp2_with (at_builtin; go_must (refine wp_app_text rfl (.tmp 17) (.tmp 20) rfl w.heap.size _ _ rfl hown1 t rfl hll hszw ?_); intro v2 w2 hown2 hb2)
        have HO2 : Hid (RdMid s p st w (k + 1) v2 w2) := ⟨by rw [← HL.out]; exact hown2, HO1.out.2.1.block (hb2.block p HP.out), grown_then HO1.out.2.2 hb2⟩
        have hv2 : ∃ a c, v2 = .slice a (k + 1) c := by
          obtain ⟨a, c, e⟩ := hown2.len
          rw [List.length_append, rdTexts_length] at e
          exact ⟨a, c, e⟩
        obtain ⟨a2, c2, rfl⟩ := hv2
        clear hown2 hb2 hown1 hll
        go_roundw
        case rel => exact ⟨k + 1, by omega, by omega, HO2.out⟩
        case measure => simp [lenOf]; omega
      · have HS : Hid ((rdTexts s st k).2 = none) := e1
        clear hown hrd hgr hmid hwi hle hp e1 HE
        go_wp2
        go_ret
        exact ⟨_, k, rfl, hk, hk2, HM.out, .inr HS.out⟩
    · have HS : Hid (k = n.toNat) := (by show k = n.toNat; omega)
      clear hown hrd hgr hmid hwi hle hp hst HE
      go_wp2
      go_ret
      exact ⟨_, k, rfl, hk, hk2, HM.out, .inl HS.out⟩
end Go.Proofs.Ytpglcbidfghfkaa

/-
  The program's reading of a head: what stands in between.
-/
namespace Go.Proofs.Ytpglcbidfghfkaa
open Go.RowKit Go.Lib
set_option linter.unusedVariables false
set_option linter.unusedSimpArgs false

theorem grown_cell {w w' : World} {b : Nat} (h : w.grownBy w' (some b)) (i : Nat) (v : Value) : w.grownBy (w'.setCell ⟨b, i, none⟩ v) (some b) :=
  ⟨h.os, h.tape, h.output, by rw [size_put]; exact h.size, fun k hk hne => heap_pass (fun e => hne (by rw [e])) (h.block k hk hne)⟩
/-- A block that the call itself has made may be written to. -/
theorem grown_own {w W W' : World} {p b : Nat} (h : w.grownBy W (some p)) (hg : W.grownBy W' (some b)) (hb : w.heap.size ≤ b) : w.grownBy W' (some p) :=
  ⟨hg.os.trans h.os, hg.tape.trans h.tape, hg.output.trans h.output, Nat.le_trans h.size hg.size, fun k hk hne => (hg.block k (Nat.lt_of_lt_of_le hk h.size) (by simp; omega)).trans (h.block k hk hne)⟩
/-- Rows of texts are not touched by what is written into a block of another type. -/
theorem OwnT.past {w w' : World} {B b : Nat} {v : Value} {l : List ByteArray} {cs : Array Value} {t : TypeId} {fz : Nat × Nat} (h : OwnT w B v l) (hg : w.grownBy w' (some b)) (hp : w.heap[b]? = some (.cells cs t fz)) (ht : t ≠ 9) : OwnT w' B v l := by
  have hne := h.other hp ht
  rcases h with ⟨h1, ⟨rfl, h2⟩ | ⟨g', cap, cur, rfl, hB', hg', hnc, hcc, hcs, ht⟩⟩
  · exact ⟨h1, .inl ⟨rfl, h2⟩⟩
  · exact ⟨h1, .inr ⟨g', cap, cur, rfl, hB', (hg.block g' (Array.getElem?_eq_some_iff.1 hg').1 (fun e => hne e.symm)).trans hg', hnc, hcc, hcs, ht⟩⟩
theorem OwnT.under {w w' : World} {B C : Nat} {v : Value} {l : List ByteArray} (h : OwnT w B v l) (hb : Below C w w') (hlt : ∀ g, v.ownBlock = some g → g < C) : OwnT w' B v l := by
  rcases h with ⟨h1, ⟨rfl, h2⟩ | ⟨g', cap, cur, rfl, hB', hg', hnc, hcc, hcs, ht⟩⟩
  · exact ⟨h1, .inl ⟨rfl, h2⟩⟩
  · exact ⟨h1, .inr ⟨g', cap, cur, rfl, hB', (hb.block g' (hlt g' rfl)).trans hg', hnc, hcc, hcs, ht⟩⟩
theorem OwnT.block_lt {w : World} {B : Nat} {v : Value} {l : List ByteArray} (h : OwnT w B v l) : ∀ g, v.ownBlock = some g → B ≤ g ∧ g < w.heap.size := by
  intro g hg
  rcases h with ⟨h1, ⟨rfl, h2⟩ | ⟨g', cap, cur, rfl, hB', hg', hnc, hcc, hcs, ht⟩⟩
  · exact absurd hg (by simp [Value.ownBlock])
  · have e : g' = g := by simpa [Value.ownBlock] using hg
    subst e
    exact ⟨hB', (Array.getElem?_eq_some_iff.1 hg').1⟩
/-- In between: the program's readers of s (at p) and of what is signed (at g); its head's cells are cs. -/
def RhMid (s : ByteArray) (p : Nat) (w : World) (st : Option Int) (T : ByteArray) (g : Nat) (it : Option Int) (cs : Array Value) (W : World) : Prop :=
  (Rd s p st W ∧ Rd T g it W) ∧ (W.heap[w.heap.size]? = some (.cells #[.string ⟨#[]⟩, .int .i64 0, .string ⟨#[]⟩, .int .i64 0, .int .i64 0, .slice none 0 0, .slice none 0 0] 26 (0, 0)) ∧ W.heap[w.heap.size + 1]? = some (.cells cs 26 (0, 0))) ∧ w.grownBy W (some p) ∧ p < w.heap.size ∧ w.heap.size + 1 < g
theorem RhMid.inner {s : ByteArray} {p : Nat} {w : World} {st : Option Int} {T : ByteArray} {g : Nat} {it it' : Option Int} {cs : Array Value} {W W' : World} (h : RhMid s p w st T g it cs W) (hr : Rd T g it' W') (hg : W.grownBy W' (some g)) : RhMid s p w st T g it' cs W' := by
  obtain ⟨⟨h1, h2⟩, ⟨h3, h4⟩, h5, h6, h7⟩ := h
  have l3 := (Array.getElem?_eq_some_iff.1 h3).1
  have l4 := (Array.getElem?_eq_some_iff.1 h4).1
  exact ⟨⟨h1.block (hg.block _ h1.lt (by simp; omega)), hr⟩, ⟨(hg.block _ l3 (by simp; omega)).trans h3, (hg.block _ l4 (by simp; omega)).trans h4⟩, grown_own h5 hg (by omega), h6, h7⟩
theorem RhMid.outer {s : ByteArray} {p : Nat} {w : World} {st st' : Option Int} {T : ByteArray} {g : Nat} {it : Option Int} {cs : Array Value} {W W' : World} (h : RhMid s p w st T g it cs W) (hr : Rd s p st' W') (hg : W.grownBy W' (some p)) : RhMid s p w st' T g it cs W' := by
  obtain ⟨⟨h1, h2⟩, ⟨h3, h4⟩, h5, h6, h7⟩ := h
  have l3 := (Array.getElem?_eq_some_iff.1 h3).1
  have l4 := (Array.getElem?_eq_some_iff.1 h4).1
  exact ⟨⟨hr, h2.block (hg.block _ h2.lt (by simp; omega))⟩, ⟨(hg.block _ l3 (by simp; omega)).trans h3, (hg.block _ l4 (by simp; omega)).trans h4⟩, row_trans h5 hg, h6, h7⟩
theorem RhMid.put {s : ByteArray} {p : Nat} {w : World} {st : Option Int} {T : ByteArray} {g : Nat} {it : Option Int} {cs : Array Value} {W : World} (h : RhMid s p w st T g it cs W) (i : Nat) (v : Value) (cs' : Array Value) (e : cs.setIfInBounds i v = cs') : RhMid s p w st T g it cs' (W.setCell ⟨w.heap.size + 1, i, none⟩ v) := by
  obtain ⟨⟨h1, h2⟩, ⟨h3, h4⟩, h5, h6, h7⟩ := h
  exact ⟨⟨h1.block (heap_pass (by omega) rfl), h2.block (heap_pass (by omega) rfl)⟩, ⟨heap_pass (by omega) h3, heap_put2 _ h4 e⟩, grown_own h5 (grown_cell (rd_refl _ _) _ _) (by omega), h6, h7⟩
theorem RhMid.cells {s : ByteArray} {p : Nat} {w : World} {st : Option Int} {T : ByteArray} {g : Nat} {it : Option Int} {a b c d e f k : Value} {W : World} (h : RhMid s p w st T g it #[a, b, c, d, e, f, k] W) :
    (W.cell? ⟨w.heap.size + 1, 0, none⟩ = some a ∧ W.cell? ⟨w.heap.size + 1, 1, none⟩ = some b ∧ W.cell? ⟨w.heap.size + 1, 2, none⟩ = some c ∧ W.cell? ⟨w.heap.size + 1, 3, none⟩ = some d ∧ W.cell? ⟨w.heap.size + 1, 4, none⟩ = some e ∧ W.cell? ⟨w.heap.size + 1, 5, none⟩ = some f ∧ W.cell? ⟨w.heap.size + 1, 6, none⟩ = some k) ∧ (W.frozen? ⟨w.heap.size + 1, 0, none⟩ = false ∧ W.frozen? ⟨w.heap.size + 1, 1, none⟩ = false ∧ W.frozen? ⟨w.heap.size + 1, 2, none⟩ = false ∧ W.frozen? ⟨w.heap.size + 1, 3, none⟩ = false ∧ W.frozen? ⟨w.heap.size + 1, 4, none⟩ = false ∧ W.frozen? ⟨w.heap.size + 1, 5, none⟩ = false ∧ W.frozen? ⟨w.heap.size + 1, 6, none⟩ = false) := by
  obtain ⟨_, ⟨_, h4⟩, _⟩ := h
  have r := row_here h4
  have q := row_free h4
  exact ⟨⟨r 0 _ rfl, r 1 _ rfl, r 2 _ rfl, r 3 _ rfl, r 4 _ rfl, r 5 _ rfl, r 6 _ rfl⟩, q 0, q 1, q 2, q 3, q 4, q 5, q 6⟩
theorem rdTexts_end {s : ByteArray} {st : Option Int} {n j : Nat} (hj : j ≤ n) (h : j = n ∨ (rdTexts s st j).2 = none) : (rdTexts s st n).2 = (rdTexts s st j).2 := by
  rcases h with rfl | h
  · rfl
  · obtain ⟨m, rfl⟩ : ∃ m, n = j + m := ⟨n - j, by omega⟩
    rw [rdTexts_none h m, h]
/-- A block that the call made is written to, cell by cell. -/
def put7 (W : World) (b : Nat) (v0 v1 v2 v3 v4 v5 v6 : Value) : World := ((((((W.setCell ⟨b, 0, none⟩ v0).setCell ⟨b, 1, none⟩ v1).setCell ⟨b, 2, none⟩ v2).setCell ⟨b, 3, none⟩ v3).setCell ⟨b, 4, none⟩ v4).setCell ⟨b, 5, none⟩ v5).setCell ⟨b, 6, none⟩ v6
theorem put7_grown (W : World) (b : Nat) (v0 v1 v2 v3 v4 v5 v6 : Value) : W.grownBy (put7 W b v0 v1 v2 v3 v4 v5 v6) (some b) :=
  grown_cell (grown_cell (grown_cell (grown_cell (grown_cell (grown_cell (grown_cell (rd_refl _ _) _ _) _ _) _ _) _ _) _ _) _ _) _ _
theorem put7_size (W : World) (b : Nat) (v0 v1 v2 v3 v4 v5 v6 : Value) : (put7 W b v0 v1 v2 v3 v4 v5 v6).heap.size = W.heap.size := by unfold put7; simp only [size_put]
theorem put7_row {W : World} {b : Nat} {a0 a1 a2 a3 a4 a5 a6 : Value} {t : TypeId} (h : W.heap[b]? = some (.cells #[a0, a1, a2, a3, a4, a5, a6] t (0, 0))) (v0 v1 v2 v3 v4 v5 v6 : Value) : (put7 W b v0 v1 v2 v3 v4 v5 v6).heap[b]? = some (.cells #[v0, v1, v2, v3, v4, v5, v6] t (0, 0)) :=
  heap_put2 _ (heap_put2 #[v0, v1, v2, v3, v4, v5, a6] (heap_put2 #[v0, v1, v2, v3, v4, a5, a6] (heap_put2 #[v0, v1, v2, v3, a4, a5, a6] (heap_put2 #[v0, v1, v2, a3, a4, a5, a6] (heap_put2 #[v0, v1, a2, a3, a4, a5, a6] (heap_put2 #[v0, a1, a2, a3, a4, a5, a6] h rfl) rfl) rfl) rfl) rfl) rfl) rfl
/-- What reading a head answers. -/
def HeadRd (s : ByteArray) (p : Nat) (st : Option Int) (w : World) (e : Ending) (w' : World) : Prop :=
  ∃ (x : Hd) (ve vp : Value) (n : Nat), e = .returned (.agg #[.string x.log, .int .i64 x.size, .string x.root, .int .i64 x.time, .int .i64 x.k, ve, vp]) ∧ (OwnT w' w.heap.size ve x.el ∧ OwnT w' n vp x.pl ∧ (∀ g, ve.ownBlock = some g → g < n) ∧ w.heap.size ≤ n ∧ n ≤ w'.heap.size) ∧ Rd s p (headAt s st).2.2 w' ∧ w.grownBy w' (some p) ∧ ((headAt s st).2.2 ≠ none → x = (headAt s st).1) ∧ (x.log.size ≤ 20000 ∧ x.root.size ≤ 20000 ∧ x.el.length ≤ 6 ∧ x.pl.length ≤ 2)
end Go.Proofs.Ytpglcbidfghfkaa

/-
  Frauds marked, and held to their marks.
-/
namespace Go.Proofs.Ytpglcbidfghfkaa
open Go.RowKit Go.Lib
set_option linter.unusedVariables false
set_option linter.unusedSimpArgs false

/-- Of what was there only blocks from B to below C have turned. -/
def Inside (w w' : World) (B C : Nat) : Prop := w'.os = w.os ∧ w'.tape = w.tape ∧ w'.output = w.output ∧ w.heap.size ≤ w'.heap.size ∧ ∀ b, b < w.heap.size → (b < B ∨ C ≤ b) → w'.heap[b]? = w.heap[b]?
theorem Inside.refl (w : World) (B C : Nat) : Inside w w B C := ⟨rfl, rfl, rfl, Nat.le_refl _, fun _ _ _ => rfl⟩
theorem Inside.wide {w w' : World} {B C B' C' : Nat} (h : Inside w w' B C) (h1 : B' ≤ B) (h2 : C ≤ C') : Inside w w' B' C' := ⟨h.1, h.2.1, h.2.2.1, h.2.2.2.1, fun b hb ho => h.2.2.2.2 b hb (by omega)⟩
theorem Inside.trans {a b c : World} {B C : Nat} (h : Inside a b B C) (k : Inside b c B C) : Inside a c B C := ⟨k.1.trans h.1, k.2.1.trans h.2.1, k.2.2.1.trans h.2.2.1, Nat.le_trans h.2.2.2.1 k.2.2.2.1, fun i hi ho => (k.2.2.2.2 i (Nat.lt_of_lt_of_le hi h.2.2.2.1) ho).trans (h.2.2.2.2 i hi ho)⟩
theorem Inside.of_below {w w' : World} {B C : Nat} (h : Below w.heap.size w w') : Inside w w' B C := ⟨h.os, h.tape, h.output, h.size, fun b hb _ => h.block b hb⟩
theorem Inside.below {w w' : World} {B C : Nat} (h : Inside w w' B C) (hB : B ≤ w.heap.size) : Below B w w' := ⟨h.1, h.2.1, h.2.2.1, h.2.2.2.1, fun b hb => h.2.2.2.2 b (by omega) (.inl hb)⟩
theorem Inside.on {w w1 w' : World} {B C : Nat} (hb : Below w.heap.size w w1) (h : Inside w1 w' B C) : Inside w w' B C := (Inside.of_below hb).trans h
theorem Spared.inside {w w' : World} {v u : Value} {B C : Nat} (h : Spared w w' v u) (hv : ∀ g, v.ownBlock = some g → B ≤ g ∧ g < C) (hu : ∀ g, u.ownBlock = some g → B ≤ g ∧ g < C) : Inside w w' B C :=
  ⟨h.1, h.2.1, h.2.2.1, h.2.2.2.1, fun b hb ho => h.2.2.2.2 b hb (fun e => by have := hv b e; omega) (fun e => by have := hu b e; omega)⟩
theorem inside_row {w w' : World} {v : Value} {B C : Nat} (h : w.grownBy w' v.ownBlock) (hv : ∀ g, v.ownBlock = some g → B ≤ g ∧ g < C) : Inside w w' B C :=
  ⟨h.os, h.tape, h.output, h.size, fun b hb ho => h.block b hb (fun e => by have := hv b e.symm; omega)⟩
theorem OwnT.aside {w w' : World} {A B C : Nat} {v : Value} {l : List ByteArray} (h : OwnT w A v l) (hi : Inside w w' B C) (hne : ∀ g, v.ownBlock = some g → g < B ∨ C ≤ g) : OwnT w' A v l := by
  rcases h with ⟨h1, ⟨rfl, h2⟩ | ⟨g', cap, cur, rfl, hB', hg', hnc, hcc, hcs, ht⟩⟩
  · exact ⟨h1, .inl ⟨rfl, h2⟩⟩
  · exact ⟨h1, .inr ⟨g', cap, cur, rfl, hB', (hi.2.2.2.2 g' (Array.getElem?_eq_some_iff.1 hg').1 (hne g' rfl)).trans hg', hnc, hcc, hcs, ht⟩⟩

set_option maxHeartbeats 4000000 in
set_option maxRecDepth 10000 in
theorem markFraud_any (x y : Hd) (vex vpx vey vpy vl : Value) (l : List ByteArray) (j : Nat) (w : World) (n0 n1 n2 n3 n4 n5 : Nat) (h : Owns5 w n0 n1 n2 n3 n4 vex vpx vey vpy vl x.el x.pl y.el y.pl l) (h5 : ∀ g, vl.ownBlock = some g → g < n5) (h45 : n4 ≤ n5 ∧ n5 ≤ w.heap.size) (hj0 : 1 ≤ j) (hj1 : j ≤ 1000000) (hl1 : x.el.length ≤ 1000000 ∧ x.pl.length ≤ 1000000) (hl2 : y.el.length ≤ 1000000 ∧ y.pl.length ≤ 1000000) (hl3 : l.length ≤ 1000000) :
    Calls Try.prog 22 #[.agg #[.string x.log, .int .i64 x.size, .string x.root, .int .i64 x.time, .int .i64 x.k, vex, vpx, .string y.log, .int .i64 y.size, .string y.root, .int .i64 y.time, .int .i64 y.k, vey, vpy, vl], .int .i64 j] w fun e w' => e = .returned (.int .i64 ((j + x.el.length + x.pl.length + y.el.length + y.pl.length + l.length : Nat) : Int)) ∧ Owns5 w' n0 n1 n2 n3 n4 vex vpx vey vpy vl (marks (j) x.el.length) (marks (j + x.el.length) x.pl.length) (marks (j + x.el.length + x.pl.length) y.el.length) (marks (j + x.el.length + x.pl.length + y.el.length) y.pl.length) (marks (j + x.el.length + x.pl.length + y.el.length + y.pl.length) l.length) ∧ Inside w w' n0 n5 := by
  obtain ⟨ax, cx, rfl⟩ := h.1.1.len
  obtain ⟨bx, dx, rfl⟩ := h.1.2.1.len
  obtain ⟨ay, cy, rfl⟩ := h.1.2.2.1.len
  obtain ⟨by', dy, rfl⟩ := h.1.2.2.2.1.len
  obtain ⟨al, cl, rfl⟩ := h.1.2.2.2.2.len
  obtain ⟨W, hW⟩ : ∃ W, W = w.alloc (.cells #[.string x.log, .int .i64 x.size, .string x.root, .int .i64 x.time, .int .i64 x.k, .slice ax x.el.length cx, .slice bx x.pl.length dx, .string y.log, .int .i64 y.size, .string y.root, .int .i64 y.time, .int .i64 y.k, .slice ay y.el.length cy, .slice by' y.pl.length dy, .slice al l.length cl] 28) := ⟨_, rfl⟩
  have hbW : Below w.heap.size w W := by rw [hW]; exact (Below.refl _ _).alloc (Nat.le_refl _) _
  have H0 : Hid (Owns5 W n0 n1 n2 n3 n4 (.slice ax x.el.length cx) (.slice bx x.pl.length dx) (.slice ay y.el.length cy) (.slice by' y.pl.length dy) (.slice al l.length cl) x.el x.pl y.el y.pl l ∧ W.heap[w.heap.size]? = some (.cells #[.string x.log, .int .i64 x.size, .string x.root, .int .i64 x.time, .int .i64 x.k, .slice ax x.el.length cx, .slice bx x.pl.length dx, .string y.log, .int .i64 y.size, .string y.root, .int .i64 y.time, .int .i64 y.k, .slice ay y.el.length cy, .slice by' y.pl.length dy, .slice al l.length cl] 28 (0, 0)) ∧ Inside w W n0 n5) := ⟨h.below hbW (Nat.le_refl _), by rw [hW]; exact heap_alloc_new w _, Inside.of_below hbW⟩
  have HW : Hid (W = w.alloc (.cells #[.string x.log, .int .i64 x.size, .string x.root, .int .i64 x.time, .int .i64 x.k, .slice ax x.el.length cx, .slice bx x.pl.length dx, .string y.log, .int .i64 y.size, .string y.root, .int .i64 y.time, .int .i64 y.k, .slice ay y.el.length cy, .slice by' y.pl.length dy, .slice al l.length cl] 28)) := hW
  have HN : Hid ((∀ g, (Value.slice al l.length cl).ownBlock = some g → g < n5) ∧ n4 ≤ n5 ∧ n5 ≤ w.heap.size ∧ (n0 ≤ n1 ∧ n1 ≤ n2 ∧ n2 ≤ n3 ∧ n3 ≤ n4)) := ⟨h5, h45.1, h45.2, h.2.2.1, h.2.2.2.1, h.2.2.2.2.1, h.2.2.2.2.2.1⟩
  have HL : Hid ((x.el.length ≤ 1000000 ∧ x.pl.length ≤ 1000000) ∧ (y.el.length ≤ 1000000 ∧ y.pl.length ≤ 1000000) ∧ l.length ≤ 1000000 ∧ 1 ≤ j ∧ j ≤ 1000000) := ⟨hl1, hl2, hl3, hj0, hj1⟩
  have E0 : Hid (Calls Try.prog 31 #[.agg #[.string x.log, .int .i64 x.size, .string x.root, .int .i64 x.time, .int .i64 x.k, .slice ax x.el.length cx, .slice bx x.pl.length dx], .int .i64 j] W fun e w' => e = .returned (.int .i64 ((j + x.el.length + x.pl.length : Nat) : Int)) ∧ OwnT w' n0 (.slice ax x.el.length cx) (marks (j) x.el.length) ∧ OwnT w' n1 (.slice bx x.pl.length dx) (marks (j + x.el.length) x.pl.length) ∧ Spared W w' (.slice ax x.el.length cx) (.slice bx x.pl.length dx)) := markHead_any _ _ _ _ _ _ _ x.el x.pl j W n0 n1 H0.out.1.1.1 H0.out.1.1.2.1 H0.out.1.2.1.1 hj0 (by omega) (by omega) (by omega)
  clear h h5 h45 hW hbW hl1 hl2 hl3 hj0 hj1
  obtain ⟨k5, hk5⟩ : ∃ k5 : Int, k5 = ((j + x.el.length + x.pl.length + y.el.length + y.pl.length + l.length : Nat) : Int) := ⟨_, rfl⟩
  rw [← hk5]
  have HK5 : Hid (k5 = ((j + x.el.length + x.pl.length + y.el.length + y.pl.length + l.length : Nat) : Int)) := hk5
  clear hk5
  go_enter Try.func22, Try.ntmps22
  go_wp2_with fail
  rw [← HW.out]
  clear HW
  refine E0.out.mono ?_
  rintro e w1 ⟨rfl, ho0, ho1, hsp⟩
  have hin : Inside W w1 n0 n2 := hsp.inside (fun g hg => by have := H0.out.1.1.1.block_lt g hg; have := H0.out.1.2.1.1 g hg; have := HN.out.2.2.2; omega) (fun g hg => by have := H0.out.1.1.2.1.block_lt g hg; have := H0.out.1.2.1.2.1 g hg; have := HN.out.2.2.2; omega)
  have H1 : Hid (Owns5 w1 n0 n1 n2 n3 n4 (.slice ax x.el.length cx) (.slice bx x.pl.length dx) (.slice ay y.el.length cy) (.slice by' y.pl.length dy) (.slice al l.length cl) (marks (j) x.el.length) (marks (j + x.el.length) x.pl.length) y.el y.pl l ∧ w1.heap[w.heap.size]? = some (.cells #[.string x.log, .int .i64 x.size, .string x.root, .int .i64 x.time, .int .i64 x.k, .slice ax x.el.length cx, .slice bx x.pl.length dx, .string y.log, .int .i64 y.size, .string y.root, .int .i64 y.time, .int .i64 y.k, .slice ay y.el.length cy, .slice by' y.pl.length dy, .slice al l.length cl] 28 (0, 0)) ∧ Inside w w1 n0 n5) := by
    obtain ⟨⟨⟨o0, o1, o2, o3, o4⟩, ⟨q0, q1, q2, q3⟩, b1, b2, b3, b4, b5⟩, hrow, hi⟩ := H0.out
    obtain ⟨z1, z2, z3, z4⟩ := HN.out
    have hz := (Array.getElem?_eq_some_iff.1 hrow).1
    exact ⟨⟨⟨ho0, ho1, o2.aside hin (fun g hg => .inr (o2.block_lt g hg).1), o3.aside hin (fun g hg => .inr (by have := (o3.block_lt g hg).1; omega)), o4.aside hin (fun g hg => .inr (by have := (o4.block_lt g hg).1; omega))⟩, ⟨q0, q1, q2, q3⟩, b1, b2, b3, b4, Nat.le_trans b5 hin.2.2.2.1⟩, (hin.2.2.2.2 _ hz (.inr (by omega))).trans hrow, hi.trans (hin.wide (Nat.le_refl _) (by omega))⟩
  clear ho0 ho1 hsp hin H0 E0
  have E1 : Hid (Calls Try.prog 31 #[.agg #[.string y.log, .int .i64 y.size, .string y.root, .int .i64 y.time, .int .i64 y.k, .slice ay y.el.length cy, .slice by' y.pl.length dy], .int .i64 ((j + x.el.length + x.pl.length : Nat) : Int)] w1 fun e w' => e = .returned (.int .i64 ((j + x.el.length + x.pl.length + y.el.length + y.pl.length : Nat) : Int)) ∧ OwnT w' n2 (.slice ay y.el.length cy) (marks (j + x.el.length + x.pl.length) y.el.length) ∧ OwnT w' n3 (.slice by' y.pl.length dy) (marks (j + x.el.length + x.pl.length + y.el.length) y.pl.length) ∧ Spared w1 w' (.slice ay y.el.length cy) (.slice by' y.pl.length dy)) := markHead_any _ _ _ _ _ _ _ y.el y.pl (j + x.el.length + x.pl.length) w1 n2 n3 H1.out.1.1.2.2.1 H1.out.1.1.2.2.2.1 H1.out.1.2.1.2.2.1 (by have := HL.out; omega) (by have := HL.out; omega) (by have := HL.out; omega) (by have := HL.out; omega)
  obtain ⟨c0, c1, c2, c3, c4, c5, c6, c7, c8, c9, c10, c11, c12, c13, c14⟩ : w1.cell? ⟨w.heap.size, 0, none⟩ = some (.string x.log) ∧ w1.cell? ⟨w.heap.size, 1, none⟩ = some (.int .i64 x.size) ∧ w1.cell? ⟨w.heap.size, 2, none⟩ = some (.string x.root) ∧ w1.cell? ⟨w.heap.size, 3, none⟩ = some (.int .i64 x.time) ∧ w1.cell? ⟨w.heap.size, 4, none⟩ = some (.int .i64 x.k) ∧ w1.cell? ⟨w.heap.size, 5, none⟩ = some (.slice ax x.el.length cx) ∧ w1.cell? ⟨w.heap.size, 6, none⟩ = some (.slice bx x.pl.length dx) ∧ w1.cell? ⟨w.heap.size, 7, none⟩ = some (.string y.log) ∧ w1.cell? ⟨w.heap.size, 8, none⟩ = some (.int .i64 y.size) ∧ w1.cell? ⟨w.heap.size, 9, none⟩ = some (.string y.root) ∧ w1.cell? ⟨w.heap.size, 10, none⟩ = some (.int .i64 y.time) ∧ w1.cell? ⟨w.heap.size, 11, none⟩ = some (.int .i64 y.k) ∧ w1.cell? ⟨w.heap.size, 12, none⟩ = some (.slice ay y.el.length cy) ∧ w1.cell? ⟨w.heap.size, 13, none⟩ = some (.slice by' y.pl.length dy) ∧ w1.cell? ⟨w.heap.size, 14, none⟩ = some (.slice al l.length cl) := ⟨row_here H1.out.2.1 0 _ rfl, row_here H1.out.2.1 1 _ rfl, row_here H1.out.2.1 2 _ rfl, row_here H1.out.2.1 3 _ rfl, row_here H1.out.2.1 4 _ rfl, row_here H1.out.2.1 5 _ rfl, row_here H1.out.2.1 6 _ rfl, row_here H1.out.2.1 7 _ rfl, row_here H1.out.2.1 8 _ rfl, row_here H1.out.2.1 9 _ rfl, row_here H1.out.2.1 10 _ rfl, row_here H1.out.2.1 11 _ rfl, row_here H1.out.2.1 12 _ rfl, row_here H1.out.2.1 13 _ rfl, row_here H1.out.2.1 14 _ rfl⟩
  generalize hk2 : ((j + x.el.length + x.pl.length : Nat) : Int) = k2 at E1 ⊢
  clear hk2
  go_wp2_with fail
  refine E1.out.mono ?_
  rintro e w2 ⟨rfl, ho0, ho1, hsp⟩
  have hin : Inside w1 w2 n2 n4 := hsp.inside (fun g hg => by have := H1.out.1.1.2.2.1.block_lt g hg; have := H1.out.1.2.1.2.2.1 g hg; have := HN.out.2.2.2; omega) (fun g hg => by have := H1.out.1.1.2.2.2.1.block_lt g hg; have := H1.out.1.2.1.2.2.2 g hg; have := HN.out.2.2.2; omega)
  have H2 : Hid (Owns5 w2 n0 n1 n2 n3 n4 (.slice ax x.el.length cx) (.slice bx x.pl.length dx) (.slice ay y.el.length cy) (.slice by' y.pl.length dy) (.slice al l.length cl) (marks (j) x.el.length) (marks (j + x.el.length) x.pl.length) (marks (j + x.el.length + x.pl.length) y.el.length) (marks (j + x.el.length + x.pl.length + y.el.length) y.pl.length) l ∧ w2.heap[w.heap.size]? = some (.cells #[.string x.log, .int .i64 x.size, .string x.root, .int .i64 x.time, .int .i64 x.k, .slice ax x.el.length cx, .slice bx x.pl.length dx, .string y.log, .int .i64 y.size, .string y.root, .int .i64 y.time, .int .i64 y.k, .slice ay y.el.length cy, .slice by' y.pl.length dy, .slice al l.length cl] 28 (0, 0)) ∧ Inside w w2 n0 n5) := by
    obtain ⟨⟨⟨o0, o1, o2, o3, o4⟩, ⟨q0, q1, q2, q3⟩, b1, b2, b3, b4, b5⟩, hrow, hi⟩ := H1.out
    obtain ⟨z1, z2, z3, z4⟩ := HN.out
    have hz := (Array.getElem?_eq_some_iff.1 hrow).1
    exact ⟨⟨⟨o0.aside hin (fun g hg => .inl (by have := q0 g hg; omega)), o1.aside hin (fun g hg => .inl (q1 g hg)), ho0, ho1, o4.aside hin (fun g hg => .inr (o4.block_lt g hg).1)⟩, ⟨q0, q1, q2, q3⟩, b1, b2, b3, b4, Nat.le_trans b5 hin.2.2.2.1⟩, (hin.2.2.2.2 _ hz (.inr (by omega))).trans hrow, hi.trans (hin.wide (by omega) (by omega))⟩
  clear ho0 ho1 hsp hin H1 E1 c0 c1 c2 c3 c4 c5 c6 c7 c8 c9 c10 c11 c12 c13 c14
  have E2 : Hid (Calls Try.prog 30 #[.slice al l.length cl, .int .i64 ((j + x.el.length + x.pl.length + y.el.length + y.pl.length : Nat) : Int)] w2 fun e w' => e = .returned (.int .i64 k5) ∧ OwnT w' n4 (.slice al l.length cl) (marks (j + x.el.length + x.pl.length + y.el.length + y.pl.length) l.length) ∧ w2.grownBy w' (Value.slice al l.length cl).ownBlock) := by rw [HK5.out]; exact mark_any _ l (j + x.el.length + x.pl.length + y.el.length + y.pl.length) w2 n4 H2.out.1.1.2.2.2.2 (by have := HL.out; omega) (by have := HL.out; omega) (by have := HL.out; omega)
  obtain ⟨c0, c1, c2, c3, c4, c5, c6, c7, c8, c9, c10, c11, c12, c13, c14⟩ : w2.cell? ⟨w.heap.size, 0, none⟩ = some (.string x.log) ∧ w2.cell? ⟨w.heap.size, 1, none⟩ = some (.int .i64 x.size) ∧ w2.cell? ⟨w.heap.size, 2, none⟩ = some (.string x.root) ∧ w2.cell? ⟨w.heap.size, 3, none⟩ = some (.int .i64 x.time) ∧ w2.cell? ⟨w.heap.size, 4, none⟩ = some (.int .i64 x.k) ∧ w2.cell? ⟨w.heap.size, 5, none⟩ = some (.slice ax x.el.length cx) ∧ w2.cell? ⟨w.heap.size, 6, none⟩ = some (.slice bx x.pl.length dx) ∧ w2.cell? ⟨w.heap.size, 7, none⟩ = some (.string y.log) ∧ w2.cell? ⟨w.heap.size, 8, none⟩ = some (.int .i64 y.size) ∧ w2.cell? ⟨w.heap.size, 9, none⟩ = some (.string y.root) ∧ w2.cell? ⟨w.heap.size, 10, none⟩ = some (.int .i64 y.time) ∧ w2.cell? ⟨w.heap.size, 11, none⟩ = some (.int .i64 y.k) ∧ w2.cell? ⟨w.heap.size, 12, none⟩ = some (.slice ay y.el.length cy) ∧ w2.cell? ⟨w.heap.size, 13, none⟩ = some (.slice by' y.pl.length dy) ∧ w2.cell? ⟨w.heap.size, 14, none⟩ = some (.slice al l.length cl) := ⟨row_here H2.out.2.1 0 _ rfl, row_here H2.out.2.1 1 _ rfl, row_here H2.out.2.1 2 _ rfl, row_here H2.out.2.1 3 _ rfl, row_here H2.out.2.1 4 _ rfl, row_here H2.out.2.1 5 _ rfl, row_here H2.out.2.1 6 _ rfl, row_here H2.out.2.1 7 _ rfl, row_here H2.out.2.1 8 _ rfl, row_here H2.out.2.1 9 _ rfl, row_here H2.out.2.1 10 _ rfl, row_here H2.out.2.1 11 _ rfl, row_here H2.out.2.1 12 _ rfl, row_here H2.out.2.1 13 _ rfl, row_here H2.out.2.1 14 _ rfl⟩
  generalize hk4 : ((j + x.el.length + x.pl.length + y.el.length + y.pl.length : Nat) : Int) = k4 at E2 ⊢
  clear hk4
  go_wp2_with fail
  refine E2.out.mono ?_
  rintro e w3 ⟨rfl, ho0, hg⟩
  have hin : Inside w2 w3 n4 n5 := inside_row hg (fun g hg => ⟨(H2.out.1.1.2.2.2.2.block_lt g hg).1, HN.out.1 g hg⟩)
  have HF : Hid (Owns5 w3 n0 n1 n2 n3 n4 (.slice ax x.el.length cx) (.slice bx x.pl.length dx) (.slice ay y.el.length cy) (.slice by' y.pl.length dy) (.slice al l.length cl) (marks (j) x.el.length) (marks (j + x.el.length) x.pl.length) (marks (j + x.el.length + x.pl.length) y.el.length) (marks (j + x.el.length + x.pl.length + y.el.length) y.pl.length) (marks (j + x.el.length + x.pl.length + y.el.length + y.pl.length) l.length) ∧ Inside w w3 n0 n5) := by
    obtain ⟨⟨⟨o0, o1, o2, o3, o4⟩, ⟨q0, q1, q2, q3⟩, b1, b2, b3, b4, b5⟩, hrow, hi⟩ := H2.out
    obtain ⟨z1, z2, z3, z4⟩ := HN.out
    exact ⟨⟨⟨o0.aside hin (fun g hg => .inl (by have := q0 g hg; omega)), o1.aside hin (fun g hg => .inl (by have := q1 g hg; omega)), o2.aside hin (fun g hg => .inl (by have := q2 g hg; omega)), o3.aside hin (fun g hg => .inl (q3 g hg)), ho0⟩, ⟨q0, q1, q2, q3⟩, b1, b2, b3, b4, Nat.le_trans b5 hin.2.2.2.1⟩, hi.trans (hin.wide (by omega) (Nat.le_refl _))⟩
  clear ho0 hg hin H2 E2 c0 c1 c2 c3 c4 c5 c6 c7 c8 c9 c10 c11 c12 c13 c14
  go_wp2
  go_ret
  exact ⟨rfl, HF.out⟩

set_option maxHeartbeats 4000000 in
set_option maxRecDepth 10000 in
theorem heldFraud_any (x y : Hd) (vex vpx vey vpy vl : Value) (m1 m2 m3 m4 m5 j : Nat) (w : World) (n0 n1 n2 n3 n4 : Nat) (h : Owns5 w n0 n1 n2 n3 n4 vex vpx vey vpy vl (marks (j) m1) (marks (j + m1) m2) (marks (j + m1 + m2) m3) (marks (j + m1 + m2 + m3) m4) (marks (j + m1 + m2 + m3 + m4) m5)) (hj0 : 1 ≤ j) (hj1 : j ≤ 1000000) (hl : m1 ≤ 1000000 ∧ m2 ≤ 1000000 ∧ m3 ≤ 1000000 ∧ m4 ≤ 1000000 ∧ m5 ≤ 1000000) :
    Calls Try.prog 23 #[.agg #[.string x.log, .int .i64 x.size, .string x.root, .int .i64 x.time, .int .i64 x.k, vex, vpx, .string y.log, .int .i64 y.size, .string y.root, .int .i64 y.time, .int .i64 y.k, vey, vpy, vl], .int .i64 j] w fun e w' => e = .returned (.int .i64 ((j + m1 + m2 + m3 + m4 + m5 : Nat) : Int)) ∧ Below w.heap.size w w' := by
  obtain ⟨ax, cx, hv⟩ := h.1.1.len
  rw [marks_len] at hv
  subst hv
  obtain ⟨bx, dx, hv⟩ := h.1.2.1.len
  rw [marks_len] at hv
  subst hv
  obtain ⟨ay, cy, hv⟩ := h.1.2.2.1.len
  rw [marks_len] at hv
  subst hv
  obtain ⟨by', dy, hv⟩ := h.1.2.2.2.1.len
  rw [marks_len] at hv
  subst hv
  obtain ⟨al, cl, hv⟩ := h.1.2.2.2.2.len
  rw [marks_len] at hv
  subst hv
  obtain ⟨W, hW⟩ : ∃ W, W = w.alloc (.cells #[.string x.log, .int .i64 x.size, .string x.root, .int .i64 x.time, .int .i64 x.k, .slice ax m1 cx, .slice bx m2 dx, .string y.log, .int .i64 y.size, .string y.root, .int .i64 y.time, .int .i64 y.k, .slice ay m3 cy, .slice by' m4 dy, .slice al m5 cl] 28) := ⟨_, rfl⟩
  have hbW : Below w.heap.size w W := by rw [hW]; exact (Below.refl _ _).alloc (Nat.le_refl _) _
  have HW : Hid (W = w.alloc (.cells #[.string x.log, .int .i64 x.size, .string x.root, .int .i64 x.time, .int .i64 x.k, .slice ax m1 cx, .slice bx m2 dx, .string y.log, .int .i64 y.size, .string y.root, .int .i64 y.time, .int .i64 y.k, .slice ay m3 cy, .slice by' m4 dy, .slice al m5 cl] 28)) := hW
  have H0 : Hid (W.heap[w.heap.size]? = some (.cells #[.string x.log, .int .i64 x.size, .string x.root, .int .i64 x.time, .int .i64 x.k, .slice ax m1 cx, .slice bx m2 dx, .string y.log, .int .i64 y.size, .string y.root, .int .i64 y.time, .int .i64 y.k, .slice ay m3 cy, .slice by' m4 dy, .slice al m5 cl] 28 (0, 0)) ∧ Below w.heap.size w W ∧ w.heap.size < W.heap.size) := ⟨by rw [hW]; exact heap_alloc_new w _, hbW, by rw [hW]; simp⟩
  have E0 : Hid (Calls Try.prog 34 #[.agg #[.string x.log, .int .i64 x.size, .string x.root, .int .i64 x.time, .int .i64 x.k, .slice ax m1 cx, .slice bx m2 dx], .int .i64 j] W fun e w' => e = .returned (.int .i64 ((j + m1 + m2 : Nat) : Int)) ∧ Below W.heap.size W w') := heldHead_any _ _ _ _ _ _ _ m1 m2 j W n0 n1 (h.1.1.below hbW (Nat.le_refl _)) (h.1.2.1.below hbW (Nat.le_refl _)) hj0 (by omega) (by omega) (by omega)
  have E1 : Hid (∀ W', Below w.heap.size w W' → Calls Try.prog 34 #[.agg #[.string y.log, .int .i64 y.size, .string y.root, .int .i64 y.time, .int .i64 y.k, .slice ay m3 cy, .slice by' m4 dy], .int .i64 ((j + m1 + m2 : Nat) : Int)] W' fun e w' => e = .returned (.int .i64 ((j + m1 + m2 + m3 + m4 : Nat) : Int)) ∧ Below W'.heap.size W' w') := fun W' hb => heldHead_any _ _ _ _ _ _ _ m3 m4 (j + m1 + m2) W' n2 n3 (h.1.2.2.1.below hb (Nat.le_refl _)) (h.1.2.2.2.1.below hb (Nat.le_refl _)) (by omega) (by omega) (by omega) (by omega)
  have E2 : Hid (∀ W', Below w.heap.size w W' → Calls Try.prog 33 #[.slice al m5 cl, .int .i64 ((j + m1 + m2 + m3 + m4 : Nat) : Int)] W' fun e w' => e = .returned (.int .i64 ((j + m1 + m2 + m3 + m4 + m5 : Nat) : Int)) ∧ Below W'.heap.size W' w') := fun W' hb => held_any _ (j + m1 + m2 + m3 + m4) m5 W' n4 (h.1.2.2.2.2.below hb (Nat.le_refl _)) (by omega) (by omega) (by omega)
  have hk2 : ¬ ((j + m1 + m2 : Nat) : Int) < 0 := by omega
  have hk4 : ¬ ((j + m1 + m2 + m3 + m4 : Nat) : Int) < 0 := by omega
  have hk5 : ¬ ((j + m1 + m2 + m3 + m4 + m5 : Nat) : Int) < 0 := by omega
  generalize ((j + m1 + m2 + m3 + m4 + m5 : Nat) : Int) = k5 at *
  generalize ((j + m1 + m2 + m3 + m4 : Nat) : Int) = k4 at *
  generalize ((j + m1 + m2 : Nat) : Int) = k2 at *
  clear h hW hbW hl hj0 hj1
  go_enter Try.func23, Try.ntmps23
  go_wp2_with fail
  rw [← HW.out]
  clear HW
  refine E0.out.mono ?_
  rintro e w1 ⟨rfl, hb⟩
  have H1 : Hid (w1.heap[w.heap.size]? = some (.cells #[.string x.log, .int .i64 x.size, .string x.root, .int .i64 x.time, .int .i64 x.k, .slice ax m1 cx, .slice bx m2 dx, .string y.log, .int .i64 y.size, .string y.root, .int .i64 y.time, .int .i64 y.k, .slice ay m3 cy, .slice by' m4 dy, .slice al m5 cl] 28 (0, 0)) ∧ Below w.heap.size w w1 ∧ w.heap.size < w1.heap.size) := ⟨(hb.block _ H0.out.2.2).trans H0.out.1, H0.out.2.1.trans (hb.mono (Nat.le_of_lt H0.out.2.2)), Nat.lt_of_lt_of_le H0.out.2.2 hb.size⟩
  clear hb H0 E0
  obtain ⟨c0, c1, c2, c3, c4, c5, c6, c7, c8, c9, c10, c11, c12, c13, c14⟩ : w1.cell? ⟨w.heap.size, 0, none⟩ = some (.string x.log) ∧ w1.cell? ⟨w.heap.size, 1, none⟩ = some (.int .i64 x.size) ∧ w1.cell? ⟨w.heap.size, 2, none⟩ = some (.string x.root) ∧ w1.cell? ⟨w.heap.size, 3, none⟩ = some (.int .i64 x.time) ∧ w1.cell? ⟨w.heap.size, 4, none⟩ = some (.int .i64 x.k) ∧ w1.cell? ⟨w.heap.size, 5, none⟩ = some (.slice ax m1 cx) ∧ w1.cell? ⟨w.heap.size, 6, none⟩ = some (.slice bx m2 dx) ∧ w1.cell? ⟨w.heap.size, 7, none⟩ = some (.string y.log) ∧ w1.cell? ⟨w.heap.size, 8, none⟩ = some (.int .i64 y.size) ∧ w1.cell? ⟨w.heap.size, 9, none⟩ = some (.string y.root) ∧ w1.cell? ⟨w.heap.size, 10, none⟩ = some (.int .i64 y.time) ∧ w1.cell? ⟨w.heap.size, 11, none⟩ = some (.int .i64 y.k) ∧ w1.cell? ⟨w.heap.size, 12, none⟩ = some (.slice ay m3 cy) ∧ w1.cell? ⟨w.heap.size, 13, none⟩ = some (.slice by' m4 dy) ∧ w1.cell? ⟨w.heap.size, 14, none⟩ = some (.slice al m5 cl) := ⟨row_here H1.out.1 0 _ rfl, row_here H1.out.1 1 _ rfl, row_here H1.out.1 2 _ rfl, row_here H1.out.1 3 _ rfl, row_here H1.out.1 4 _ rfl, row_here H1.out.1 5 _ rfl, row_here H1.out.1 6 _ rfl, row_here H1.out.1 7 _ rfl, row_here H1.out.1 8 _ rfl, row_here H1.out.1 9 _ rfl, row_here H1.out.1 10 _ rfl, row_here H1.out.1 11 _ rfl, row_here H1.out.1 12 _ rfl, row_here H1.out.1 13 _ rfl, row_here H1.out.1 14 _ rfl⟩
  go_wp2_with fail
  refine (E1.out _ H1.out.2.1).mono ?_
  rintro e w2 ⟨rfl, hb⟩
  have H2 : Hid (w2.heap[w.heap.size]? = some (.cells #[.string x.log, .int .i64 x.size, .string x.root, .int .i64 x.time, .int .i64 x.k, .slice ax m1 cx, .slice bx m2 dx, .string y.log, .int .i64 y.size, .string y.root, .int .i64 y.time, .int .i64 y.k, .slice ay m3 cy, .slice by' m4 dy, .slice al m5 cl] 28 (0, 0)) ∧ Below w.heap.size w w2 ∧ w.heap.size < w2.heap.size) := ⟨(hb.block _ H1.out.2.2).trans H1.out.1, H1.out.2.1.trans (hb.mono (Nat.le_of_lt H1.out.2.2)), Nat.lt_of_lt_of_le H1.out.2.2 hb.size⟩
  clear hb H1 E1 c0 c1 c2 c3 c4 c5 c6 c7 c8 c9 c10 c11 c12 c13 c14
  obtain ⟨c0, c1, c2, c3, c4, c5, c6, c7, c8, c9, c10, c11, c12, c13, c14⟩ : w2.cell? ⟨w.heap.size, 0, none⟩ = some (.string x.log) ∧ w2.cell? ⟨w.heap.size, 1, none⟩ = some (.int .i64 x.size) ∧ w2.cell? ⟨w.heap.size, 2, none⟩ = some (.string x.root) ∧ w2.cell? ⟨w.heap.size, 3, none⟩ = some (.int .i64 x.time) ∧ w2.cell? ⟨w.heap.size, 4, none⟩ = some (.int .i64 x.k) ∧ w2.cell? ⟨w.heap.size, 5, none⟩ = some (.slice ax m1 cx) ∧ w2.cell? ⟨w.heap.size, 6, none⟩ = some (.slice bx m2 dx) ∧ w2.cell? ⟨w.heap.size, 7, none⟩ = some (.string y.log) ∧ w2.cell? ⟨w.heap.size, 8, none⟩ = some (.int .i64 y.size) ∧ w2.cell? ⟨w.heap.size, 9, none⟩ = some (.string y.root) ∧ w2.cell? ⟨w.heap.size, 10, none⟩ = some (.int .i64 y.time) ∧ w2.cell? ⟨w.heap.size, 11, none⟩ = some (.int .i64 y.k) ∧ w2.cell? ⟨w.heap.size, 12, none⟩ = some (.slice ay m3 cy) ∧ w2.cell? ⟨w.heap.size, 13, none⟩ = some (.slice by' m4 dy) ∧ w2.cell? ⟨w.heap.size, 14, none⟩ = some (.slice al m5 cl) := ⟨row_here H2.out.1 0 _ rfl, row_here H2.out.1 1 _ rfl, row_here H2.out.1 2 _ rfl, row_here H2.out.1 3 _ rfl, row_here H2.out.1 4 _ rfl, row_here H2.out.1 5 _ rfl, row_here H2.out.1 6 _ rfl, row_here H2.out.1 7 _ rfl, row_here H2.out.1 8 _ rfl, row_here H2.out.1 9 _ rfl, row_here H2.out.1 10 _ rfl, row_here H2.out.1 11 _ rfl, row_here H2.out.1 12 _ rfl, row_here H2.out.1 13 _ rfl, row_here H2.out.1 14 _ rfl⟩
  go_wp2_with fail
  refine (E2.out _ H2.out.2.1).mono ?_
  rintro e w3 ⟨rfl, hb⟩
  have HF : Hid (Below w.heap.size w w3) := H2.out.2.1.trans (hb.mono (Nat.le_of_lt H2.out.2.2))
  clear hb H2 E2 c0 c1 c2 c3 c4 c5 c6 c7 c8 c9 c10 c11 c12 c13 c14
  go_wp2
  go_ret
  exact ⟨rfl, HF.out⟩
end Go.Proofs.Ytpglcbidfghfkaa

/-
  What FraudRead answers, held against another answer, marked, and held to its marks.
-/
namespace Go.Proofs.Ytpglcbidfghfkaa
open Go.RowKit Go.Lib
set_option linter.unusedVariables false
set_option linter.unusedSimpArgs false

set_option maxHeartbeats 4000000 in
set_option maxRecDepth 10000 in
theorem eqFraudOut_any {x y : Hd} {l : List ByteArray} {c : Int} {a1 b1 e1 g1 i1 : Option Addr} {c1 d1 f1 o1 j1 : Nat} {a2 b2 e2 g2 i2 : Option Addr} {c2 d2 f2 o2 j2 : Nat} (w : World) (h1 : x.In (.slice a1 x.el.length c1) (.slice b1 x.pl.length d1) w w.heap.size ∧ y.In (.slice e1 y.el.length f1) (.slice g1 y.pl.length o1) w w.heap.size ∧ Texts w w.heap.size (.slice i1 l.length j1) l) (h2 : x.In (.slice a2 x.el.length c2) (.slice b2 x.pl.length d2) w w.heap.size ∧ y.In (.slice e2 y.el.length f2) (.slice g2 y.pl.length o2) w w.heap.size ∧ Texts w w.heap.size (.slice i2 l.length j2) l) (hlx : x.Lim) (hly : y.Lim) (hll : l.length ≤ 1048577) :
    Calls Try.prog 7 #[.agg #[.string x.log, .int .i64 x.size, .string x.root, .int .i64 x.time, .int .i64 x.k, .slice a1 x.el.length c1, .slice b1 x.pl.length d1, .string y.log, .int .i64 y.size, .string y.root, .int .i64 y.time, .int .i64 y.k, .slice e1 y.el.length f1, .slice g1 y.pl.length o1, .slice i1 l.length j1, .int .i64 c], .agg #[.string x.log, .int .i64 x.size, .string x.root, .int .i64 x.time, .int .i64 x.k, .slice a2 x.el.length c2, .slice b2 x.pl.length d2, .string y.log, .int .i64 y.size, .string y.root, .int .i64 y.time, .int .i64 y.k, .slice e2 y.el.length f2, .slice g2 y.pl.length o2, .slice i2 l.length j2, .int .i64 c]] w fun e w' => e = .returned (.bool true) ∧ Below w.heap.size w w' := by
  obtain ⟨W, hW⟩ : ∃ W, W = (w.alloc (.cells #[.string x.log, .int .i64 x.size, .string x.root, .int .i64 x.time, .int .i64 x.k, .slice a1 x.el.length c1, .slice b1 x.pl.length d1, .string y.log, .int .i64 y.size, .string y.root, .int .i64 y.time, .int .i64 y.k, .slice e1 y.el.length f1, .slice g1 y.pl.length o1, .slice i1 l.length j1, .int .i64 c] 30)).alloc (.cells #[.string x.log, .int .i64 x.size, .string x.root, .int .i64 x.time, .int .i64 x.k, .slice a2 x.el.length c2, .slice b2 x.pl.length d2, .string y.log, .int .i64 y.size, .string y.root, .int .i64 y.time, .int .i64 y.k, .slice e2 y.el.length f2, .slice g2 y.pl.length o2, .slice i2 l.length j2, .int .i64 c] 30) := ⟨_, rfl⟩
  have hbW : Below w.heap.size w W := by rw [hW]; exact ((Below.refl _ _).alloc (Nat.le_refl _) _).alloc (by simp) _
  have HW : Hid (W = (w.alloc (.cells #[.string x.log, .int .i64 x.size, .string x.root, .int .i64 x.time, .int .i64 x.k, .slice a1 x.el.length c1, .slice b1 x.pl.length d1, .string y.log, .int .i64 y.size, .string y.root, .int .i64 y.time, .int .i64 y.k, .slice e1 y.el.length f1, .slice g1 y.pl.length o1, .slice i1 l.length j1, .int .i64 c] 30)).alloc (.cells #[.string x.log, .int .i64 x.size, .string x.root, .int .i64 x.time, .int .i64 x.k, .slice a2 x.el.length c2, .slice b2 x.pl.length d2, .string y.log, .int .i64 y.size, .string y.root, .int .i64 y.time, .int .i64 y.k, .slice e2 y.el.length f2, .slice g2 y.pl.length o2, .slice i2 l.length j2, .int .i64 c] 30)) := hW
  have H0 : Hid (W.heap[w.heap.size]? = some (.cells #[.string x.log, .int .i64 x.size, .string x.root, .int .i64 x.time, .int .i64 x.k, .slice a1 x.el.length c1, .slice b1 x.pl.length d1, .string y.log, .int .i64 y.size, .string y.root, .int .i64 y.time, .int .i64 y.k, .slice e1 y.el.length f1, .slice g1 y.pl.length o1, .slice i1 l.length j1, .int .i64 c] 30 (0, 0)) ∧ W.heap[w.heap.size + 1]? = some (.cells #[.string x.log, .int .i64 x.size, .string x.root, .int .i64 x.time, .int .i64 x.k, .slice a2 x.el.length c2, .slice b2 x.pl.length d2, .string y.log, .int .i64 y.size, .string y.root, .int .i64 y.time, .int .i64 y.k, .slice e2 y.el.length f2, .slice g2 y.pl.length o2, .slice i2 l.length j2, .int .i64 c] 30 (0, 0)) ∧ Below w.heap.size w W ∧ W.heap.size = w.heap.size + 2) := ⟨by rw [hW]; exact heap_alloc2_old w _ _, by rw [hW]; exact heap_alloc2_new w _ _, hbW, by rw [hW]; simp⟩
  have E0 : Hid (Calls Try.prog 21 #[.agg #[.string x.log, .int .i64 x.size, .string x.root, .int .i64 x.time, .int .i64 x.k, .slice a1 x.el.length c1, .slice b1 x.pl.length d1, .string y.log, .int .i64 y.size, .string y.root, .int .i64 y.time, .int .i64 y.k, .slice e1 y.el.length f1, .slice g1 y.pl.length o1, .slice i1 l.length j1], .agg #[.string x.log, .int .i64 x.size, .string x.root, .int .i64 x.time, .int .i64 x.k, .slice a2 x.el.length c2, .slice b2 x.pl.length d2, .string y.log, .int .i64 y.size, .string y.root, .int .i64 y.time, .int .i64 y.k, .slice e2 y.el.length f2, .slice g2 y.pl.length o2, .slice i2 l.length j2]] W fun e w' => e = .returned (.bool true) ∧ Below W.heap.size W w') := eqFraud_any x y l _ _ _ _ _ _ _ _ _ _ _ _ _ _ _ _ _ _ _ _ W (h1.1.on hbW) (h1.2.1.on hbW) (h1.2.2.on hbW) (h2.1.on hbW) (h2.2.1.on hbW) (h2.2.2.on hbW) hlx hly hll
  clear hW hbW h1 h2 hlx hly hll
  go_enter Try.func7, Try.ntmps7
  go_wp2_with fail
  rw [← HW.out]
  clear HW
  refine E0.out.mono ?_
  rintro e w1 ⟨rfl, hb⟩
  have p15 : w1.cell? ⟨w.heap.size, 15, none⟩ = some (.int .i64 c) := row_here ((hb.block _ (by have := H0.out.2.2.2; omega)).trans H0.out.1) 15 _ rfl
  have q15 : w1.cell? ⟨w.heap.size + 1, 15, none⟩ = some (.int .i64 c) := row_here ((hb.block _ (by have := H0.out.2.2.2; omega)).trans H0.out.2.1) 15 _ rfl
  have HB : Hid (Below w.heap.size w w1) := H0.out.2.2.1.trans (hb.mono H0.out.2.2.1.size)
  clear hb H0
  go_wp2
  go_ret
  exact ⟨rfl, HB.out⟩

set_option maxHeartbeats 4000000 in
set_option maxRecDepth 10000 in
theorem markFraudOut_any {x y : Hd} {l : List ByteArray} {c : Int} {a1 b1 e1 g1 i1 : Option Addr} {c1 d1 f1 o1 j1 : Nat} (w : World) (n0 n1 n2 n3 n4 n5 : Nat) (h : Owns5 w n0 n1 n2 n3 n4 (.slice a1 x.el.length c1) (.slice b1 x.pl.length d1) (.slice e1 y.el.length f1) (.slice g1 y.pl.length o1) (.slice i1 l.length j1) x.el x.pl y.el y.pl l) (h5 : ∀ g, (Value.slice i1 l.length j1).ownBlock = some g → g < n5) (h45 : n4 ≤ n5 ∧ n5 ≤ w.heap.size) (hl1 : x.el.length ≤ 1000000 ∧ x.pl.length ≤ 1000000) (hl2 : y.el.length ≤ 1000000 ∧ y.pl.length ≤ 1000000) (hl3 : l.length ≤ 1000000) :
    Calls Try.prog 8 #[.agg #[.string x.log, .int .i64 x.size, .string x.root, .int .i64 x.time, .int .i64 x.k, .slice a1 x.el.length c1, .slice b1 x.pl.length d1, .string y.log, .int .i64 y.size, .string y.root, .int .i64 y.time, .int .i64 y.k, .slice e1 y.el.length f1, .slice g1 y.pl.length o1, .slice i1 l.length j1, .int .i64 c], .int .i64 1] w fun e w' => e = .returned (.int .i64 ((1 + x.el.length + x.pl.length + y.el.length + y.pl.length + l.length : Nat) : Int)) ∧ Owns5 w' n0 n1 n2 n3 n4 (.slice a1 x.el.length c1) (.slice b1 x.pl.length d1) (.slice e1 y.el.length f1) (.slice g1 y.pl.length o1) (.slice i1 l.length j1) (marks (1) x.el.length) (marks (1 + x.el.length) x.pl.length) (marks (1 + x.el.length + x.pl.length) y.el.length) (marks (1 + x.el.length + x.pl.length + y.el.length) y.pl.length) (marks (1 + x.el.length + x.pl.length + y.el.length + y.pl.length) l.length) ∧ Inside w w' n0 n5 := by
  obtain ⟨W, hW⟩ : ∃ W, W = w.alloc (.cells #[.string x.log, .int .i64 x.size, .string x.root, .int .i64 x.time, .int .i64 x.k, .slice a1 x.el.length c1, .slice b1 x.pl.length d1, .string y.log, .int .i64 y.size, .string y.root, .int .i64 y.time, .int .i64 y.k, .slice e1 y.el.length f1, .slice g1 y.pl.length o1, .slice i1 l.length j1, .int .i64 c] 30) := ⟨_, rfl⟩
  have hbW : Below w.heap.size w W := by rw [hW]; exact (Below.refl _ _).alloc (Nat.le_refl _) _
  have HW : Hid (W = w.alloc (.cells #[.string x.log, .int .i64 x.size, .string x.root, .int .i64 x.time, .int .i64 x.k, .slice a1 x.el.length c1, .slice b1 x.pl.length d1, .string y.log, .int .i64 y.size, .string y.root, .int .i64 y.time, .int .i64 y.k, .slice e1 y.el.length f1, .slice g1 y.pl.length o1, .slice i1 l.length j1, .int .i64 c] 30)) := hW
  have E0 : Hid (Calls Try.prog 22 #[.agg #[.string x.log, .int .i64 x.size, .string x.root, .int .i64 x.time, .int .i64 x.k, .slice a1 x.el.length c1, .slice b1 x.pl.length d1, .string y.log, .int .i64 y.size, .string y.root, .int .i64 y.time, .int .i64 y.k, .slice e1 y.el.length f1, .slice g1 y.pl.length o1, .slice i1 l.length j1], .int .i64 1] W fun e w' => e = .returned (.int .i64 ((1 + x.el.length + x.pl.length + y.el.length + y.pl.length + l.length : Nat) : Int)) ∧ Owns5 w' n0 n1 n2 n3 n4 (.slice a1 x.el.length c1) (.slice b1 x.pl.length d1) (.slice e1 y.el.length f1) (.slice g1 y.pl.length o1) (.slice i1 l.length j1) (marks (1) x.el.length) (marks (1 + x.el.length) x.pl.length) (marks (1 + x.el.length + x.pl.length) y.el.length) (marks (1 + x.el.length + x.pl.length + y.el.length) y.pl.length) (marks (1 + x.el.length + x.pl.length + y.el.length + y.pl.length) l.length) ∧ Inside w w' n0 n5) := (markFraud_any x y _ _ _ _ _ l 1 W n0 n1 n2 n3 n4 n5 (h.below hbW (Nat.le_refl _)) h5 ⟨h45.1, Nat.le_trans h45.2 hbW.size⟩ (by omega) (by omega) hl1 hl2 hl3).mono fun e w' h => ⟨h.1, h.2.1, h.2.2.on hbW⟩
  clear hW hbW h h5 h45 hl1 hl2 hl3
  generalize ((1 + x.el.length + x.pl.length + y.el.length + y.pl.length + l.length : Nat) : Int) = k5 at *
  go_enter Try.func8, Try.ntmps8
  go_wp2_with fail
  rw [← HW.out]
  clear HW
  refine E0.out.mono ?_
  rintro e w1 ⟨rfl, hp⟩
  have HP : Hid (_ ∧ _) := hp
  clear hp E0
  go_wp2
  go_ret
  exact ⟨rfl, HP.out⟩

set_option maxHeartbeats 4000000 in
set_option maxRecDepth 10000 in
theorem heldFraudOut_any {x y : Hd} {l : List ByteArray} {c : Int} {a1 b1 e1 g1 i1 : Option Addr} {c1 d1 f1 o1 j1 : Nat} (w : World) (n0 n1 n2 n3 n4 : Nat) (h : Owns5 w n0 n1 n2 n3 n4 (.slice a1 x.el.length c1) (.slice b1 x.pl.length d1) (.slice e1 y.el.length f1) (.slice g1 y.pl.length o1) (.slice i1 l.length j1) (marks (1) x.el.length) (marks (1 + x.el.length) x.pl.length) (marks (1 + x.el.length + x.pl.length) y.el.length) (marks (1 + x.el.length + x.pl.length + y.el.length) y.pl.length) (marks (1 + x.el.length + x.pl.length + y.el.length + y.pl.length) l.length)) (hl1 : x.el.length ≤ 1000000 ∧ x.pl.length ≤ 1000000) (hl2 : y.el.length ≤ 1000000 ∧ y.pl.length ≤ 1000000) (hl3 : l.length ≤ 1000000) :
    Calls Try.prog 9 #[.agg #[.string x.log, .int .i64 x.size, .string x.root, .int .i64 x.time, .int .i64 x.k, .slice a1 x.el.length c1, .slice b1 x.pl.length d1, .string y.log, .int .i64 y.size, .string y.root, .int .i64 y.time, .int .i64 y.k, .slice e1 y.el.length f1, .slice g1 y.pl.length o1, .slice i1 l.length j1, .int .i64 c], .int .i64 1] w fun e w' => e = .returned (.int .i64 ((1 + x.el.length + x.pl.length + y.el.length + y.pl.length + l.length : Nat) : Int)) ∧ Below w.heap.size w w' := by
  obtain ⟨W, hW⟩ : ∃ W, W = w.alloc (.cells #[.string x.log, .int .i64 x.size, .string x.root, .int .i64 x.time, .int .i64 x.k, .slice a1 x.el.length c1, .slice b1 x.pl.length d1, .string y.log, .int .i64 y.size, .string y.root, .int .i64 y.time, .int .i64 y.k, .slice e1 y.el.length f1, .slice g1 y.pl.length o1, .slice i1 l.length j1, .int .i64 c] 30) := ⟨_, rfl⟩
  have hbW : Below w.heap.size w W := by rw [hW]; exact (Below.refl _ _).alloc (Nat.le_refl _) _
  have HW : Hid (W = w.alloc (.cells #[.string x.log, .int .i64 x.size, .string x.root, .int .i64 x.time, .int .i64 x.k, .slice a1 x.el.length c1, .slice b1 x.pl.length d1, .string y.log, .int .i64 y.size, .string y.root, .int .i64 y.time, .int .i64 y.k, .slice e1 y.el.length f1, .slice g1 y.pl.length o1, .slice i1 l.length j1, .int .i64 c] 30)) := hW
  have E0 : Hid (Calls Try.prog 23 #[.agg #[.string x.log, .int .i64 x.size, .string x.root, .int .i64 x.time, .int .i64 x.k, .slice a1 x.el.length c1, .slice b1 x.pl.length d1, .string y.log, .int .i64 y.size, .string y.root, .int .i64 y.time, .int .i64 y.k, .slice e1 y.el.length f1, .slice g1 y.pl.length o1, .slice i1 l.length j1], .int .i64 1] W fun e w' => e = .returned (.int .i64 ((1 + x.el.length + x.pl.length + y.el.length + y.pl.length + l.length : Nat) : Int)) ∧ Below w.heap.size w w') := (heldFraud_any x y _ _ _ _ _ x.el.length x.pl.length y.el.length y.pl.length l.length 1 W n0 n1 n2 n3 n4 (h.below hbW (Nat.le_refl _)) (by omega) (by omega) ⟨hl1.1, hl1.2, hl2.1, hl2.2, hl3⟩).mono fun e w' h => ⟨h.1, hbW.trans (h.2.mono hbW.size)⟩
  have hk5 : ¬ ((1 + x.el.length + x.pl.length + y.el.length + y.pl.length + l.length : Nat) : Int) < 0 := by omega
  clear hW hbW h hl1 hl2 hl3
  generalize ((1 + x.el.length + x.pl.length + y.el.length + y.pl.length + l.length : Nat) : Int) = k5 at *
  go_enter Try.func9, Try.ntmps9
  go_wp2_with fail
  rw [← HW.out]
  clear HW
  refine E0.out.mono ?_
  rintro e w1 ⟨rfl, hp⟩
  have HP : Hid (Below w.heap.size w w1) := hp
  clear hp E0
  go_wp2
  go_ret
  exact ⟨rfl, HP.out⟩
end Go.Proofs.Ytpglcbidfghfkaa

/-
  The program's reading of a head.
-/
namespace Go.Proofs.Ytpglcbidfghfkaa
open Go.RowKit Go.Lib
set_option linter.unusedVariables false
set_option linter.unusedSimpArgs false

def T1size (T : ByteArray) : Prop := ∀ st, (rdText T st).1.size ≤ 20000
set_option maxHeartbeats 4000000 in
set_option maxRecDepth 10000 in
theorem rdHead_any (s : ByteArray) (hs : ¬ 20000 < (s.size : Int)) (p : Nat) (st : Option Int) (w : World) (h : Rd s p st w) :
    Calls Try.prog 43 #[.pointer (some ⟨p, 0, none⟩)] w fun e w' => HeadRd s p st w e w' := by
  obtain ⟨W, hW⟩ : ∃ W, W = (w.alloc (.cells #[.string ⟨#[]⟩, .int .i64 0, .string ⟨#[]⟩, .int .i64 0, .int .i64 0, .slice none 0 0, .slice none 0 0] 26)).alloc (.cells #[.string ⟨#[]⟩, .int .i64 0, .string ⟨#[]⟩, .int .i64 0, .int .i64 0, .slice none 0 0, .slice none 0 0] 26) := ⟨_, rfl⟩
  have hlt := h.lt
  have hbW : Below w.heap.size w W := by rw [hW]; exact ((Below.refl _ _).alloc (Nat.le_refl _) _).alloc (by simp) _
  have H0 : Hid (Rd s p st W ∧ (W.heap[w.heap.size]? = some (.cells #[.string ⟨#[]⟩, .int .i64 0, .string ⟨#[]⟩, .int .i64 0, .int .i64 0, .slice none 0 0, .slice none 0 0] 26 (0, 0)) ∧ W.heap[w.heap.size + 1]? = some (.cells #[.string ⟨#[]⟩, .int .i64 0, .string ⟨#[]⟩, .int .i64 0, .int .i64 0, .slice none 0 0, .slice none 0 0] 26 (0, 0))) ∧ w.grownBy W (some p) ∧ p < w.heap.size) := ⟨h.block (hbW.block p hlt), ⟨by rw [hW]; exact heap_alloc2_old w _ _, by rw [hW]; exact heap_alloc2_new w _ _⟩, row_below hbW _, hlt⟩
  have HW : Hid (W = (w.alloc (.cells #[.string ⟨#[]⟩, .int .i64 0, .string ⟨#[]⟩, .int .i64 0, .int .i64 0, .slice none 0 0, .slice none 0 0] 26)).alloc (.cells #[.string ⟨#[]⟩, .int .i64 0, .string ⟨#[]⟩, .int .i64 0, .int .i64 0, .slice none 0 0, .slice none 0 0] 26)) := hW
  have ES : Hid (∀ (s : ByteArray) (hs : ¬ 20000 < (s.size : Int)) (p : Nat) (st : Option Int) (w : World), Rd s p st w → Calls Try.prog 67 #[.pointer (some ⟨p, 0, none⟩)] w fun e w' => e = .returned (.string (rdText s st).1) ∧ Rd s p (rdText s st).2 w' ∧ w.grownBy w' (some p)) := str_any
  have EN : Hid (∀ (s : ByteArray) (hs : ¬ 20000 < (s.size : Int)) (p : Nat) (st : Option Int) (w : World), Rd s p st w → Calls Try.prog 45 #[.pointer (some ⟨p, 0, none⟩)] w fun e w' => e = .returned (.int .i64 (rdNum s st).1) ∧ Rd s p (rdNum s st).2 w' ∧ w.grownBy w' (some p)) := num_any
  have HS : Hid (¬ 20000 < (s.size : Int)) := hs
  have HTT : Hid (¬ 20000 < ((rdText s st).1.size : Int)) := (by have := rdText_size s st; show ¬ 20000 < ((rdText s st).1.size : Int); omega)
  have HSZ : Hid (T1size (rdText s st).1 ∧ s.size ≤ 20000) := ⟨fun st' => Nat.le_trans (rdText_size _ _) (by have := rdText_size s st; omega), by omega⟩
  clear h hbW hW hs
  go_enter Try.func43, Try.ntmps43
  go_wp2_with fail
  rw [← HW.out]
  clear HW
  refine (ES.out s HS.out p st W H0.out.1).mono ?_
  rintro e w1 ⟨rfl, hr1, hg1⟩
  have HHT : Hid (headAt s st = (⟨(rdText (rdText s st).1 (some 0)).1, (rdText (rdText s st).1 (rdNum (rdText s st).1 (rdText (rdText s st).1 (some 0)).2).2).1, (rdNum (rdText s st).1 (rdText (rdText s st).1 (some 0)).2).1, (rdNum (rdText s st).1 (rdText (rdText s st).1 (rdNum (rdText s st).1 (rdText (rdText s st).1 (some 0)).2).2).2).1, (rdNum s (rdText s st).2).1, (rdTexts s (rdNum s (rdText s st).2).2 6).1, (rdTexts s (rdTexts s (rdNum s (rdText s st).2).2 6).2 2).1⟩, (rdNum (rdText s st).1 (rdText (rdText s st).1 (rdNum (rdText s st).1 (rdText (rdText s st).1 (some 0)).2).2).2).2, (rdTexts s (rdTexts s (rdNum s (rdText s st).2).2 6).2 2).2)) := rfl
  generalize (rdText s st).1 = T at *
  generalize (rdText s st).2 = st1 at *
  obtain ⟨W1, hW1⟩ : ∃ W1, W1 = w1.alloc (.cells #[.string T, .int .i64 0, .nilIface] 52) := ⟨_, rfl⟩
  have hb1 : Below w1.heap.size w1 W1 := by rw [hW1]; exact (Below.refl _ _).alloc (Nat.le_refl _) _
  obtain ⟨g, hg⟩ : ∃ g, g = w1.heap.size := ⟨_, rfl⟩
  have H1 : Hid (RhMid s p w st1 T g (some 0) #[.string ⟨#[]⟩, .int .i64 0, .string ⟨#[]⟩, .int .i64 0, .int .i64 0, .slice none 0 0, .slice none 0 0] W1) := by
    obtain ⟨p1, ⟨p2, p3⟩, p4, p5⟩ := H0.out
    have l2 := (Array.getElem?_eq_some_iff.1 p2).1
    have l3 := (Array.getElem?_eq_some_iff.1 p3).1
    have hz := hg1.size
    exact ⟨⟨hr1.block (hb1.block _ hr1.lt), ⟨0, .nilIface, by rw [hW1, hg]; exact heap_alloc_new w1 _, .inl ⟨rfl, rfl, Int.le_refl _, Int.natCast_nonneg _⟩⟩⟩, ⟨(hb1.block _ (by omega)).trans ((hg1.block _ l2 (by simp; omega)).trans p2), (hb1.block _ (by omega)).trans ((hg1.block _ l3 (by simp; omega)).trans p3)⟩, grown_then (row_trans p4 hg1) (hb1.mono (Nat.le_trans p4.size hz)), p5, by omega⟩
  have HW1 : Hid (W1 = w1.alloc (.cells #[.string T, .int .i64 0, .nilIface] 52)) := hW1
  have HG : Hid (g = w1.heap.size) := hg
  clear hr1 hg1 hW1 hg hb1 H0 hlt
  go_wp2_with fail
  rw [← HW1.out, ← HG.out]
  clear HW1 HG
  refine (ES.out T HTT.out g (some 0) _ H1.out.1.2).mono ?_
  rintro e w2 ⟨rfl, hr, hgr⟩
  have HZt1 : Hid ((rdText T (some 0)).1.size ≤ 20000) := HSZ.out.1 _
  generalize (rdText T (some 0)).1 = t1 at *
  generalize (rdText T (some 0)).2 = i1 at *
  have G2 : Hid (RhMid s p w st1 T g (i1) #[.string ⟨#[]⟩, .int .i64 0, .string ⟨#[]⟩, .int .i64 0, .int .i64 0, .slice none 0 0, .slice none 0 0] w2) := H1.out.inner hr hgr
  obtain ⟨⟨c0, c1, c2, c3, c4, c5, c6⟩, f0, f1, f2, f3, f4, f5, f6⟩ := G2.out.cells
  clear hr hgr H1
  have H2 : Hid (RhMid s p w st1 T g (i1) #[.string t1, .int .i64 0, .string ⟨#[]⟩, .int .i64 0, .int .i64 0, .slice none 0 0, .slice none 0 0] (w2.setCell ⟨w.heap.size + 1, 0, none⟩ (.string t1))) := G2.out.put 0 _ _ rfl
  clear G2
  go_wp2_with fail
  clear c0 c1 c2 c3 c4 c5 c6 f0 f1 f2 f3 f4 f5 f6
  refine (EN.out T HTT.out g (i1) _ H2.out.1.2).mono ?_
  rintro e w3 ⟨rfl, hr, hgr⟩
  generalize (rdNum T (i1)).1 = n2 at *
  generalize (rdNum T (i1)).2 = i2 at *
  have G3 : Hid (RhMid s p w st1 T g (i2) #[.string t1, .int .i64 0, .string ⟨#[]⟩, .int .i64 0, .int .i64 0, .slice none 0 0, .slice none 0 0] w3) := H2.out.inner hr hgr
  obtain ⟨⟨c0, c1, c2, c3, c4, c5, c6⟩, f0, f1, f2, f3, f4, f5, f6⟩ := G3.out.cells
  clear hr hgr H2
  have H3 : Hid (RhMid s p w st1 T g (i2) #[.string t1, .int .i64 n2, .string ⟨#[]⟩, .int .i64 0, .int .i64 0, .slice none 0 0, .slice none 0 0] (w3.setCell ⟨w.heap.size + 1, 1, none⟩ (.int .i64 n2))) := G3.out.put 1 _ _ rfl
  clear G3
  go_wp2_with fail
  clear c0 c1 c2 c3 c4 c5 c6 f0 f1 f2 f3 f4 f5 f6
  refine (ES.out T HTT.out g (i2) _ H3.out.1.2).mono ?_
  rintro e w4 ⟨rfl, hr, hgr⟩
  have HZt3 : Hid ((rdText T (i2)).1.size ≤ 20000) := HSZ.out.1 _
  generalize (rdText T (i2)).1 = t3 at *
  generalize (rdText T (i2)).2 = i3 at *
  have G4 : Hid (RhMid s p w st1 T g (i3) #[.string t1, .int .i64 n2, .string ⟨#[]⟩, .int .i64 0, .int .i64 0, .slice none 0 0, .slice none 0 0] w4) := H3.out.inner hr hgr
  obtain ⟨⟨c0, c1, c2, c3, c4, c5, c6⟩, f0, f1, f2, f3, f4, f5, f6⟩ := G4.out.cells
  clear hr hgr H3
  have H4 : Hid (RhMid s p w st1 T g (i3) #[.string t1, .int .i64 n2, .string t3, .int .i64 0, .int .i64 0, .slice none 0 0, .slice none 0 0] (w4.setCell ⟨w.heap.size + 1, 2, none⟩ (.string t3))) := G4.out.put 2 _ _ rfl
  clear G4
  go_wp2_with fail
  clear c0 c1 c2 c3 c4 c5 c6 f0 f1 f2 f3 f4 f5 f6
  refine (EN.out T HTT.out g (i3) _ H4.out.1.2).mono ?_
  rintro e w5 ⟨rfl, hr, hgr⟩
  generalize (rdNum T (i3)).1 = n4 at *
  generalize (rdNum T (i3)).2 = i4 at *
  have G5 : Hid (RhMid s p w st1 T g (i4) #[.string t1, .int .i64 n2, .string t3, .int .i64 0, .int .i64 0, .slice none 0 0, .slice none 0 0] w5) := H4.out.inner hr hgr
  obtain ⟨⟨c0, c1, c2, c3, c4, c5, c6⟩, f0, f1, f2, f3, f4, f5, f6⟩ := G5.out.cells
  clear hr hgr H4
  have H5 : Hid (RhMid s p w st1 T g (i4) #[.string t1, .int .i64 n2, .string t3, .int .i64 n4, .int .i64 0, .slice none 0 0, .slice none 0 0] (w5.setCell ⟨w.heap.size + 1, 3, none⟩ (.int .i64 n4))) := G5.out.put 3 _ _ rfl
  clear G5
  go_wp2_with fail
  clear c0 c1 c2 c3 c4 c5 c6 f0 f1 f2 f3 f4 f5 f6
  refine (EN.out s HS.out p (st1) _ H5.out.1.1).mono ?_
  rintro e w6 ⟨rfl, hr, hgr⟩
  generalize (rdNum s (st1)).1 = n5 at *
  generalize (rdNum s (st1)).2 = st2 at *
  have G6 : Hid (RhMid s p w st2 T g (i4) #[.string t1, .int .i64 n2, .string t3, .int .i64 n4, .int .i64 0, .slice none 0 0, .slice none 0 0] w6) := H5.out.outer hr hgr
  obtain ⟨⟨c0, c1, c2, c3, c4, c5, c6⟩, f0, f1, f2, f3, f4, f5, f6⟩ := G6.out.cells
  clear hr hgr H5
  have H6 : Hid (RhMid s p w st2 T g (i4) #[.string t1, .int .i64 n2, .string t3, .int .i64 n4, .int .i64 n5, .slice none 0 0, .slice none 0 0] (w6.setCell ⟨w.heap.size + 1, 4, none⟩ (.int .i64 n5))) := G6.out.put 4 _ _ rfl
  clear G6
  go_wp2_with fail
  clear c0 c1 c2 c3 c4 c5 c6 f0 f1 f2 f3 f4 f5 f6
  refine (strs_any s (by have := HS.out; omega) p st2 6 _ H6.out.1.1 (by omega)).mono ?_
  rintro e w7 ⟨ve, j, rfl, hj, _, ⟨ho, hr, hgr⟩, hjj⟩
  obtain ⟨a5, c5', hv⟩ := ho.len
  rw [rdTexts_length] at hv
  subst hv
  have G7 : Hid (RhMid s p w (rdTexts s st2 j).2 T g i4 #[.string t1, .int .i64 n2, .string t3, .int .i64 n4, .int .i64 n5, .slice none 0 0, .slice none 0 0] w7) := H6.out.outer hr hgr
  have O7 : Hid (OwnT w7 w.heap.size (.slice a5 j c5') (rdTexts s st2 j).1) := ho.lower H6.out.2.2.1.size
  have J7 : Hid (j ≤ 6 ∧ (j = 6 ∨ (rdTexts s st2 j).2 = none)) := ⟨hj, hjj⟩
  obtain ⟨⟨c0, c1, c2, c3, c4, c5, c6⟩, f0, f1, f2, f3, f4, f5, f6⟩ := G7.out.cells
  clear hr hgr ho hj hjj H6 ES EN
  have H7 : Hid (RhMid s p w (rdTexts s st2 j).2 T g i4 #[.string t1, .int .i64 n2, .string t3, .int .i64 n4, .int .i64 n5, .slice a5 j c5', .slice none 0 0] (w7.setCell ⟨w.heap.size + 1, 5, none⟩ (.slice a5 j c5'))) := G7.out.put 5 _ _ rfl
  have P7 : Hid (OwnT (w7.setCell ⟨w.heap.size + 1, 5, none⟩ (.slice a5 j c5')) w.heap.size (.slice a5 j c5') (rdTexts s st2 j).1) := O7.out.past (grown_cell (rd_refl _ _) _ _) G7.out.2.1.2 (by decide)
  clear G7 O7
  go_wp2_with fail
  clear c0 c1 c2 c3 c4 c5 c6 f0 f1 f2 f3 f4 f5 f6
  obtain ⟨W7, hW7⟩ : ∃ W7, W7 = w7.setCell ⟨w.heap.size + 1, 5, none⟩ (.slice a5 j c5') := ⟨_, rfl⟩
  rw [← hW7] at H7 P7 ⊢
  clear hW7
  refine (strs_any s (by have := HS.out; omega) p (rdTexts s st2 j).2 2 _ H7.out.1.1 (by omega)).mono ?_
  rintro e w8 ⟨vp, m, rfl, hm, _, ⟨ho, hr, hgr⟩, hmm⟩
  obtain ⟨a6, c6', hv⟩ := ho.len
  rw [rdTexts_length] at hv
  subst hv
  have G8 : Hid (RhMid s p w (rdTexts s (rdTexts s st2 j).2 m).2 T g i4 #[.string t1, .int .i64 n2, .string t3, .int .i64 n4, .int .i64 n5, .slice a5 j c5', .slice none 0 0] w8) := H7.out.outer hr hgr
  have O8 : Hid (OwnT w8 w.heap.size (.slice a5 j c5') (rdTexts s st2 j).1 ∧ OwnT w8 W7.heap.size (.slice a6 m c6') (rdTexts s (rdTexts s st2 j).2 m).1 ∧ (∀ g, (Value.slice a5 j c5').ownBlock = some g → g < W7.heap.size) ∧ w.heap.size ≤ W7.heap.size ∧ W7.heap.size ≤ w8.heap.size) := ⟨P7.out.grown hgr H7.out.2.2.2.1, ho, fun g hg => (P7.out.block_lt g hg).2, H7.out.2.2.1.size, hgr.size⟩
  have J8 : Hid (m ≤ 2 ∧ (m = 2 ∨ (rdTexts s (rdTexts s st2 j).2 m).2 = none)) := ⟨hm, hmm⟩
  obtain ⟨⟨c0, c1, c2, c3, c4, c5, c6⟩, f0, f1, f2, f3, f4, f5, f6⟩ := G8.out.cells
  have k2 := row_here G8.out.2.1.1
  have q2 := row_free G8.out.2.1.1
  have k20 := k2 0 _ rfl
  have k21 := k2 1 _ rfl
  have k22 := k2 2 _ rfl
  have k23 := k2 3 _ rfl
  have k24 := k2 4 _ rfl
  have k25 := k2 5 _ rfl
  have k26 := k2 6 _ rfl
  have q20 := q2 0
  have q21 := q2 1
  have q22 := q2 2
  have q23 := q2 3
  have q24 := q2 4
  have q25 := q2 5
  have q26 := q2 6
  obtain ⟨n8, hn8⟩ : ∃ n8, n8 = W7.heap.size := ⟨_, rfl⟩
  rw [← hn8] at O8
  obtain ⟨WF, HWF, HANS, HRW⟩ : ∃ WF, Hid (WF = put7 (w8.setCell ⟨w.heap.size + 1, 6, none⟩ (.slice a6 m c6')) w.heap.size (.string t1) (.int .i64 n2) (.string t3) (.int .i64 n4) (.int .i64 n5) (.slice a5 j c5') (.slice a6 m c6')) ∧ Hid (HeadRd s p st w (.returned (.agg #[.string t1, .int .i64 n2, .string t3, .int .i64 n4, .int .i64 n5, .slice a5 j c5', .slice a6 m c6'])) WF) ∧ Hid (WF.heap[w.heap.size]? = some (.cells #[.string t1, .int .i64 n2, .string t3, .int .i64 n4, .int .i64 n5, .slice a5 j c5', .slice a6 m c6'] 26 (0, 0))) := by
    have H8 := G8.out.put 6 (.slice a6 m c6') _ rfl
    obtain ⟨o1, o2, o3, o4, o5⟩ := O8.out
    have hb3 := G8.out.2.1.2
    have hb2 := H8.2.1.1
    have gput := grown_cell (rd_refl w8 (some (w.heap.size + 1))) 6 (.slice a6 m c6')
    have gp7 := put7_grown (w8.setCell ⟨w.heap.size + 1, 6, none⟩ (.slice a6 m c6')) w.heap.size (.string t1) (.int .i64 n2) (.string t3) (.int .i64 n4) (.int .i64 n5) (.slice a5 j c5') (.slice a6 m c6')
    refine ⟨_, rfl, ⟨⟨t1, t3, n2, n4, n5, (rdTexts s st2 j).1, (rdTexts s (rdTexts s st2 j).2 m).1⟩, _, _, n8, rfl, ⟨(o1.past gput hb3 (by decide)).past gp7 hb2 (by decide), (o2.past gput hb3 (by decide)).past gp7 hb2 (by decide), o3, o4, by rw [put7_size, size_put]; exact o5⟩, ?_, ?_, ?_, HZt1.out, HZt3.out, by rw [rdTexts_length]; exact J7.out.1, by rw [rdTexts_length]; exact J8.out.1⟩, put7_row hb2 _ _ _ _ _ _ _⟩
    · have e : (headAt s st).2.2 = (rdTexts s (rdTexts s st2 j).2 m).2 := by
        rw [HHT.out]
        show (rdTexts s (rdTexts s st2 6).2 2).2 = _
        rw [rdTexts_end J7.out.1 J7.out.2, rdTexts_end J8.out.1 J8.out.2]
      rw [e]
      exact H8.1.1.block (gp7.block _ H8.1.1.lt (by have := H8.2.2.2.1; simp; omega))
    · exact grown_own H8.2.2.1 gp7 (Nat.le_refl _)
    · intro hne
      rw [HHT.out] at hne ⊢
      have hne' : (rdTexts s (rdTexts s st2 6).2 2).2 ≠ none := hne
      have hj6 : j = 6 := by
        rcases J7.out.2 with h | h
        · exact h
        · exfalso
          rw [rdTexts_end J7.out.1 (.inr h), h, rdTexts_stuck] at hne'
          exact hne' rfl
      subst hj6
      have hm2 : m = 2 := by
        rcases J8.out.2 with h | h
        · exact h
        · exfalso
          rw [rdTexts_end J8.out.1 (.inr h), h] at hne'
          exact hne' rfl
      subst hm2
      rfl
  clear hr hgr ho hm hmm H7 P7 hn8 J7 J8 G8 HHT O8 k2 q2 HZt1 HZt3
  unfold put7 at HWF
  go_wp2
  rw [← HWF.out]
  have v := row_here HRW.out
  have v0 := v 0 _ rfl
  have v1 := v 1 _ rfl
  have v2 := v 2 _ rfl
  have v3 := v 3 _ rfl
  have v4 := v 4 _ rfl
  have v5 := v 5 _ rfl
  have v6 := v 6 _ rfl
  exact bodyPost_ret (v := .agg #[.string t1, .int .i64 n2, .string t3, .int .i64 n4, .int .i64 n5, .slice a5 j c5', .slice a6 m c6']) (by simp [results, Try.results43, go_sem, v0, v1, v2, v3, v4, v5, v6]) rfl HANS.out
end Go.Proofs.Ytpglcbidfghfkaa

/-
  The program's reading of a fraud.
-/
namespace Go.Proofs.Ytpglcbidfghfkaa
open Go.RowKit Go.Lib
set_option linter.unusedVariables false
set_option linter.unusedSimpArgs false

/-- What reading a fraud answers. -/
def FraudRd (s : ByteArray) (p : Nat) (w : World) (e : Ending) (w' : World) : Prop :=
  ∃ (x y : Hd) (l : List ByteArray) (vex vpx vey vpy vl : Value) (n1 n2 n3 n4 : Nat), e = .returned (.agg #[.string x.log, .int .i64 x.size, .string x.root, .int .i64 x.time, .int .i64 x.k, vex, vpx, .string y.log, .int .i64 y.size, .string y.root, .int .i64 y.time, .int .i64 y.k, vey, vpy, vl]) ∧ Owns5 w' w.heap.size n1 n2 n3 n4 vex vpx vey vpy vl x.el x.pl y.el y.pl l ∧ Rd s p (fraudAt s).2 w' ∧ w.grownBy w' (some p) ∧ ((fraudAt s).2 ≠ none → x = (headsAt s).1.1 ∧ y = (headsAt s).2.1 ∧ l = (fraudAt s).1) ∧ (x.log.size ≤ 20000 ∧ x.root.size ≤ 20000 ∧ x.el.length ≤ 6 ∧ x.pl.length ≤ 2) ∧ (y.log.size ≤ 20000 ∧ y.root.size ≤ 20000 ∧ y.el.length ≤ 6 ∧ y.pl.length ≤ 2) ∧ l.length ≤ 20001
/-- In between: the reader at p; the fraud's cells are cs. -/
def RfMid (s : ByteArray) (p : Nat) (w : World) (st : Option Int) (cs : Array Value) (W : World) : Prop :=
  Rd s p st W ∧ (W.heap[w.heap.size]? = some (.cells #[.string ⟨#[]⟩, .int .i64 0, .string ⟨#[]⟩, .int .i64 0, .int .i64 0, .slice none 0 0, .slice none 0 0, .string ⟨#[]⟩, .int .i64 0, .string ⟨#[]⟩, .int .i64 0, .int .i64 0, .slice none 0 0, .slice none 0 0, .slice none 0 0] 28 (0, 0)) ∧ W.heap[w.heap.size + 1]? = some (.cells cs 28 (0, 0))) ∧ w.grownBy W (some p) ∧ p < w.heap.size
theorem RfMid.outer {s : ByteArray} {p : Nat} {w : World} {st st' : Option Int} {cs : Array Value} {W W' : World} (h : RfMid s p w st cs W) (hr : Rd s p st' W') (hg : W.grownBy W' (some p)) : RfMid s p w st' cs W' := by
  obtain ⟨h1, ⟨h3, h4⟩, h5, h6⟩ := h
  have l3 := (Array.getElem?_eq_some_iff.1 h3).1
  have l4 := (Array.getElem?_eq_some_iff.1 h4).1
  exact ⟨hr, ⟨(hg.block _ l3 (by simp; omega)).trans h3, (hg.block _ l4 (by simp; omega)).trans h4⟩, row_trans h5 hg, h6⟩
theorem RfMid.putA {s : ByteArray} {p : Nat} {w : World} {st : Option Int} {x y : Hd} {ax bx ay by' al : Option Addr} {cx dx cy dy cl j : Nat} {W : World} (h : RfMid s p w st #[.string ⟨#[]⟩, .int .i64 0, .string ⟨#[]⟩, .int .i64 0, .int .i64 0, .slice none 0 0, .slice none 0 0, .string ⟨#[]⟩, .int .i64 0, .string ⟨#[]⟩, .int .i64 0, .int .i64 0, .slice none 0 0, .slice none 0 0, .slice none 0 0] W) : RfMid s p w st #[.string x.log, .int .i64 x.size, .string x.root, .int .i64 x.time, .int .i64 x.k, .slice ax x.el.length cx, .slice bx x.pl.length dx, .string ⟨#[]⟩, .int .i64 0, .string ⟨#[]⟩, .int .i64 0, .int .i64 0, .slice none 0 0, .slice none 0 0, .slice none 0 0] (((((((W.setCell ⟨w.heap.size + 1, 0, none⟩ (.string x.log)).setCell ⟨w.heap.size + 1, 1, none⟩ (.int .i64 x.size)).setCell ⟨w.heap.size + 1, 2, none⟩ (.string x.root)).setCell ⟨w.heap.size + 1, 3, none⟩ (.int .i64 x.time)).setCell ⟨w.heap.size + 1, 4, none⟩ (.int .i64 x.k)).setCell ⟨w.heap.size + 1, 5, none⟩ (.slice ax x.el.length cx)).setCell ⟨w.heap.size + 1, 6, none⟩ (.slice bx x.pl.length dx)) ∧ W.grownBy (((((((W.setCell ⟨w.heap.size + 1, 0, none⟩ (.string x.log)).setCell ⟨w.heap.size + 1, 1, none⟩ (.int .i64 x.size)).setCell ⟨w.heap.size + 1, 2, none⟩ (.string x.root)).setCell ⟨w.heap.size + 1, 3, none⟩ (.int .i64 x.time)).setCell ⟨w.heap.size + 1, 4, none⟩ (.int .i64 x.k)).setCell ⟨w.heap.size + 1, 5, none⟩ (.slice ax x.el.length cx)).setCell ⟨w.heap.size + 1, 6, none⟩ (.slice bx x.pl.length dx)) (some (w.heap.size + 1)) := by
  obtain ⟨h1, ⟨h3, h4⟩, h5, h6⟩ := h
  have r0 : (W.setCell ⟨w.heap.size + 1, 0, none⟩ (.string x.log)).heap[w.heap.size + 1]? = some (Obj.cells #[.string x.log, .int .i64 0, .string ⟨#[]⟩, .int .i64 0, .int .i64 0, .slice none 0 0, .slice none 0 0, .string ⟨#[]⟩, .int .i64 0, .string ⟨#[]⟩, .int .i64 0, .int .i64 0, .slice none 0 0, .slice none 0 0, .slice none 0 0] 28 (0, 0)) := heap_put2 _ h4 rfl
  have r1 : ((W.setCell ⟨w.heap.size + 1, 0, none⟩ (.string x.log)).setCell ⟨w.heap.size + 1, 1, none⟩ (.int .i64 x.size)).heap[w.heap.size + 1]? = some (Obj.cells #[.string x.log, .int .i64 x.size, .string ⟨#[]⟩, .int .i64 0, .int .i64 0, .slice none 0 0, .slice none 0 0, .string ⟨#[]⟩, .int .i64 0, .string ⟨#[]⟩, .int .i64 0, .int .i64 0, .slice none 0 0, .slice none 0 0, .slice none 0 0] 28 (0, 0)) := heap_put2 _ r0 rfl
  have r2 : (((W.setCell ⟨w.heap.size + 1, 0, none⟩ (.string x.log)).setCell ⟨w.heap.size + 1, 1, none⟩ (.int .i64 x.size)).setCell ⟨w.heap.size + 1, 2, none⟩ (.string x.root)).heap[w.heap.size + 1]? = some (Obj.cells #[.string x.log, .int .i64 x.size, .string x.root, .int .i64 0, .int .i64 0, .slice none 0 0, .slice none 0 0, .string ⟨#[]⟩, .int .i64 0, .string ⟨#[]⟩, .int .i64 0, .int .i64 0, .slice none 0 0, .slice none 0 0, .slice none 0 0] 28 (0, 0)) := heap_put2 _ r1 rfl
  have r3 : ((((W.setCell ⟨w.heap.size + 1, 0, none⟩ (.string x.log)).setCell ⟨w.heap.size + 1, 1, none⟩ (.int .i64 x.size)).setCell ⟨w.heap.size + 1, 2, none⟩ (.string x.root)).setCell ⟨w.heap.size + 1, 3, none⟩ (.int .i64 x.time)).heap[w.heap.size + 1]? = some (Obj.cells #[.string x.log, .int .i64 x.size, .string x.root, .int .i64 x.time, .int .i64 0, .slice none 0 0, .slice none 0 0, .string ⟨#[]⟩, .int .i64 0, .string ⟨#[]⟩, .int .i64 0, .int .i64 0, .slice none 0 0, .slice none 0 0, .slice none 0 0] 28 (0, 0)) := heap_put2 _ r2 rfl
  have r4 : (((((W.setCell ⟨w.heap.size + 1, 0, none⟩ (.string x.log)).setCell ⟨w.heap.size + 1, 1, none⟩ (.int .i64 x.size)).setCell ⟨w.heap.size + 1, 2, none⟩ (.string x.root)).setCell ⟨w.heap.size + 1, 3, none⟩ (.int .i64 x.time)).setCell ⟨w.heap.size + 1, 4, none⟩ (.int .i64 x.k)).heap[w.heap.size + 1]? = some (Obj.cells #[.string x.log, .int .i64 x.size, .string x.root, .int .i64 x.time, .int .i64 x.k, .slice none 0 0, .slice none 0 0, .string ⟨#[]⟩, .int .i64 0, .string ⟨#[]⟩, .int .i64 0, .int .i64 0, .slice none 0 0, .slice none 0 0, .slice none 0 0] 28 (0, 0)) := heap_put2 _ r3 rfl
  have r5 : ((((((W.setCell ⟨w.heap.size + 1, 0, none⟩ (.string x.log)).setCell ⟨w.heap.size + 1, 1, none⟩ (.int .i64 x.size)).setCell ⟨w.heap.size + 1, 2, none⟩ (.string x.root)).setCell ⟨w.heap.size + 1, 3, none⟩ (.int .i64 x.time)).setCell ⟨w.heap.size + 1, 4, none⟩ (.int .i64 x.k)).setCell ⟨w.heap.size + 1, 5, none⟩ (.slice ax x.el.length cx)).heap[w.heap.size + 1]? = some (Obj.cells #[.string x.log, .int .i64 x.size, .string x.root, .int .i64 x.time, .int .i64 x.k, .slice ax x.el.length cx, .slice none 0 0, .string ⟨#[]⟩, .int .i64 0, .string ⟨#[]⟩, .int .i64 0, .int .i64 0, .slice none 0 0, .slice none 0 0, .slice none 0 0] 28 (0, 0)) := heap_put2 _ r4 rfl
  have r6 : (((((((W.setCell ⟨w.heap.size + 1, 0, none⟩ (.string x.log)).setCell ⟨w.heap.size + 1, 1, none⟩ (.int .i64 x.size)).setCell ⟨w.heap.size + 1, 2, none⟩ (.string x.root)).setCell ⟨w.heap.size + 1, 3, none⟩ (.int .i64 x.time)).setCell ⟨w.heap.size + 1, 4, none⟩ (.int .i64 x.k)).setCell ⟨w.heap.size + 1, 5, none⟩ (.slice ax x.el.length cx)).setCell ⟨w.heap.size + 1, 6, none⟩ (.slice bx x.pl.length dx)).heap[w.heap.size + 1]? = some (Obj.cells #[.string x.log, .int .i64 x.size, .string x.root, .int .i64 x.time, .int .i64 x.k, .slice ax x.el.length cx, .slice bx x.pl.length dx, .string ⟨#[]⟩, .int .i64 0, .string ⟨#[]⟩, .int .i64 0, .int .i64 0, .slice none 0 0, .slice none 0 0, .slice none 0 0] 28 (0, 0)) := heap_put2 _ r5 rfl
  have hg : W.grownBy (((((((W.setCell ⟨w.heap.size + 1, 0, none⟩ (.string x.log)).setCell ⟨w.heap.size + 1, 1, none⟩ (.int .i64 x.size)).setCell ⟨w.heap.size + 1, 2, none⟩ (.string x.root)).setCell ⟨w.heap.size + 1, 3, none⟩ (.int .i64 x.time)).setCell ⟨w.heap.size + 1, 4, none⟩ (.int .i64 x.k)).setCell ⟨w.heap.size + 1, 5, none⟩ (.slice ax x.el.length cx)).setCell ⟨w.heap.size + 1, 6, none⟩ (.slice bx x.pl.length dx)) (some (w.heap.size + 1)) := by
    iterate 7 (refine grown_cell ?_ _ _)
    exact rd_refl _ _
  have l3 := (Array.getElem?_eq_some_iff.1 h3).1
  exact ⟨⟨h1.block (hg.block _ h1.lt (by simp; omega)), ⟨(hg.block _ l3 (by simp)).trans h3, r6⟩, grown_own h5 hg (by omega), h6⟩, hg⟩
theorem RfMid.putB {s : ByteArray} {p : Nat} {w : World} {st : Option Int} {x y : Hd} {ax bx ay by' al : Option Addr} {cx dx cy dy cl j : Nat} {W : World} (h : RfMid s p w st #[.string x.log, .int .i64 x.size, .string x.root, .int .i64 x.time, .int .i64 x.k, .slice ax x.el.length cx, .slice bx x.pl.length dx, .string ⟨#[]⟩, .int .i64 0, .string ⟨#[]⟩, .int .i64 0, .int .i64 0, .slice none 0 0, .slice none 0 0, .slice none 0 0] W) : RfMid s p w st #[.string x.log, .int .i64 x.size, .string x.root, .int .i64 x.time, .int .i64 x.k, .slice ax x.el.length cx, .slice bx x.pl.length dx, .string y.log, .int .i64 y.size, .string y.root, .int .i64 y.time, .int .i64 y.k, .slice ay y.el.length cy, .slice by' y.pl.length dy, .slice none 0 0] (((((((W.setCell ⟨w.heap.size + 1, 7, none⟩ (.string y.log)).setCell ⟨w.heap.size + 1, 8, none⟩ (.int .i64 y.size)).setCell ⟨w.heap.size + 1, 9, none⟩ (.string y.root)).setCell ⟨w.heap.size + 1, 10, none⟩ (.int .i64 y.time)).setCell ⟨w.heap.size + 1, 11, none⟩ (.int .i64 y.k)).setCell ⟨w.heap.size + 1, 12, none⟩ (.slice ay y.el.length cy)).setCell ⟨w.heap.size + 1, 13, none⟩ (.slice by' y.pl.length dy)) ∧ W.grownBy (((((((W.setCell ⟨w.heap.size + 1, 7, none⟩ (.string y.log)).setCell ⟨w.heap.size + 1, 8, none⟩ (.int .i64 y.size)).setCell ⟨w.heap.size + 1, 9, none⟩ (.string y.root)).setCell ⟨w.heap.size + 1, 10, none⟩ (.int .i64 y.time)).setCell ⟨w.heap.size + 1, 11, none⟩ (.int .i64 y.k)).setCell ⟨w.heap.size + 1, 12, none⟩ (.slice ay y.el.length cy)).setCell ⟨w.heap.size + 1, 13, none⟩ (.slice by' y.pl.length dy)) (some (w.heap.size + 1)) := by
  obtain ⟨h1, ⟨h3, h4⟩, h5, h6⟩ := h
  have r0 : (W.setCell ⟨w.heap.size + 1, 7, none⟩ (.string y.log)).heap[w.heap.size + 1]? = some (Obj.cells #[.string x.log, .int .i64 x.size, .string x.root, .int .i64 x.time, .int .i64 x.k, .slice ax x.el.length cx, .slice bx x.pl.length dx, .string y.log, .int .i64 0, .string ⟨#[]⟩, .int .i64 0, .int .i64 0, .slice none 0 0, .slice none 0 0, .slice none 0 0] 28 (0, 0)) := heap_put2 _ h4 rfl
  have r1 : ((W.setCell ⟨w.heap.size + 1, 7, none⟩ (.string y.log)).setCell ⟨w.heap.size + 1, 8, none⟩ (.int .i64 y.size)).heap[w.heap.size + 1]? = some (Obj.cells #[.string x.log, .int .i64 x.size, .string x.root, .int .i64 x.time, .int .i64 x.k, .slice ax x.el.length cx, .slice bx x.pl.length dx, .string y.log, .int .i64 y.size, .string ⟨#[]⟩, .int .i64 0, .int .i64 0, .slice none 0 0, .slice none 0 0, .slice none 0 0] 28 (0, 0)) := heap_put2 _ r0 rfl
  have r2 : (((W.setCell ⟨w.heap.size + 1, 7, none⟩ (.string y.log)).setCell ⟨w.heap.size + 1, 8, none⟩ (.int .i64 y.size)).setCell ⟨w.heap.size + 1, 9, none⟩ (.string y.root)).heap[w.heap.size + 1]? = some (Obj.cells #[.string x.log, .int .i64 x.size, .string x.root, .int .i64 x.time, .int .i64 x.k, .slice ax x.el.length cx, .slice bx x.pl.length dx, .string y.log, .int .i64 y.size, .string y.root, .int .i64 0, .int .i64 0, .slice none 0 0, .slice none 0 0, .slice none 0 0] 28 (0, 0)) := heap_put2 _ r1 rfl
  have r3 : ((((W.setCell ⟨w.heap.size + 1, 7, none⟩ (.string y.log)).setCell ⟨w.heap.size + 1, 8, none⟩ (.int .i64 y.size)).setCell ⟨w.heap.size + 1, 9, none⟩ (.string y.root)).setCell ⟨w.heap.size + 1, 10, none⟩ (.int .i64 y.time)).heap[w.heap.size + 1]? = some (Obj.cells #[.string x.log, .int .i64 x.size, .string x.root, .int .i64 x.time, .int .i64 x.k, .slice ax x.el.length cx, .slice bx x.pl.length dx, .string y.log, .int .i64 y.size, .string y.root, .int .i64 y.time, .int .i64 0, .slice none 0 0, .slice none 0 0, .slice none 0 0] 28 (0, 0)) := heap_put2 _ r2 rfl
  have r4 : (((((W.setCell ⟨w.heap.size + 1, 7, none⟩ (.string y.log)).setCell ⟨w.heap.size + 1, 8, none⟩ (.int .i64 y.size)).setCell ⟨w.heap.size + 1, 9, none⟩ (.string y.root)).setCell ⟨w.heap.size + 1, 10, none⟩ (.int .i64 y.time)).setCell ⟨w.heap.size + 1, 11, none⟩ (.int .i64 y.k)).heap[w.heap.size + 1]? = some (Obj.cells #[.string x.log, .int .i64 x.size, .string x.root, .int .i64 x.time, .int .i64 x.k, .slice ax x.el.length cx, .slice bx x.pl.length dx, .string y.log, .int .i64 y.size, .string y.root, .int .i64 y.time, .int .i64 y.k, .slice none 0 0, .slice none 0 0, .slice none 0 0] 28 (0, 0)) := heap_put2 _ r3 rfl
  have r5 : ((((((W.setCell ⟨w.heap.size + 1, 7, none⟩ (.string y.log)).setCell ⟨w.heap.size + 1, 8, none⟩ (.int .i64 y.size)).setCell ⟨w.heap.size + 1, 9, none⟩ (.string y.root)).setCell ⟨w.heap.size + 1, 10, none⟩ (.int .i64 y.time)).setCell ⟨w.heap.size + 1, 11, none⟩ (.int .i64 y.k)).setCell ⟨w.heap.size + 1, 12, none⟩ (.slice ay y.el.length cy)).heap[w.heap.size + 1]? = some (Obj.cells #[.string x.log, .int .i64 x.size, .string x.root, .int .i64 x.time, .int .i64 x.k, .slice ax x.el.length cx, .slice bx x.pl.length dx, .string y.log, .int .i64 y.size, .string y.root, .int .i64 y.time, .int .i64 y.k, .slice ay y.el.length cy, .slice none 0 0, .slice none 0 0] 28 (0, 0)) := heap_put2 _ r4 rfl
  have r6 : (((((((W.setCell ⟨w.heap.size + 1, 7, none⟩ (.string y.log)).setCell ⟨w.heap.size + 1, 8, none⟩ (.int .i64 y.size)).setCell ⟨w.heap.size + 1, 9, none⟩ (.string y.root)).setCell ⟨w.heap.size + 1, 10, none⟩ (.int .i64 y.time)).setCell ⟨w.heap.size + 1, 11, none⟩ (.int .i64 y.k)).setCell ⟨w.heap.size + 1, 12, none⟩ (.slice ay y.el.length cy)).setCell ⟨w.heap.size + 1, 13, none⟩ (.slice by' y.pl.length dy)).heap[w.heap.size + 1]? = some (Obj.cells #[.string x.log, .int .i64 x.size, .string x.root, .int .i64 x.time, .int .i64 x.k, .slice ax x.el.length cx, .slice bx x.pl.length dx, .string y.log, .int .i64 y.size, .string y.root, .int .i64 y.time, .int .i64 y.k, .slice ay y.el.length cy, .slice by' y.pl.length dy, .slice none 0 0] 28 (0, 0)) := heap_put2 _ r5 rfl
  have hg : W.grownBy (((((((W.setCell ⟨w.heap.size + 1, 7, none⟩ (.string y.log)).setCell ⟨w.heap.size + 1, 8, none⟩ (.int .i64 y.size)).setCell ⟨w.heap.size + 1, 9, none⟩ (.string y.root)).setCell ⟨w.heap.size + 1, 10, none⟩ (.int .i64 y.time)).setCell ⟨w.heap.size + 1, 11, none⟩ (.int .i64 y.k)).setCell ⟨w.heap.size + 1, 12, none⟩ (.slice ay y.el.length cy)).setCell ⟨w.heap.size + 1, 13, none⟩ (.slice by' y.pl.length dy)) (some (w.heap.size + 1)) := by
    iterate 7 (refine grown_cell ?_ _ _)
    exact rd_refl _ _
  have l3 := (Array.getElem?_eq_some_iff.1 h3).1
  exact ⟨⟨h1.block (hg.block _ h1.lt (by simp; omega)), ⟨(hg.block _ l3 (by simp)).trans h3, r6⟩, grown_own h5 hg (by omega), h6⟩, hg⟩
theorem RfMid.putC {s : ByteArray} {p : Nat} {w : World} {st : Option Int} {x y : Hd} {ax bx ay by' al : Option Addr} {cx dx cy dy cl j : Nat} {W : World} (h : RfMid s p w st #[.string x.log, .int .i64 x.size, .string x.root, .int .i64 x.time, .int .i64 x.k, .slice ax x.el.length cx, .slice bx x.pl.length dx, .string y.log, .int .i64 y.size, .string y.root, .int .i64 y.time, .int .i64 y.k, .slice ay y.el.length cy, .slice by' y.pl.length dy, .slice none 0 0] W) : RfMid s p w st #[.string x.log, .int .i64 x.size, .string x.root, .int .i64 x.time, .int .i64 x.k, .slice ax x.el.length cx, .slice bx x.pl.length dx, .string y.log, .int .i64 y.size, .string y.root, .int .i64 y.time, .int .i64 y.k, .slice ay y.el.length cy, .slice by' y.pl.length dy, .slice al j cl] (W.setCell ⟨w.heap.size + 1, 14, none⟩ (.slice al j cl)) ∧ W.grownBy (W.setCell ⟨w.heap.size + 1, 14, none⟩ (.slice al j cl)) (some (w.heap.size + 1)) := by
  obtain ⟨h1, ⟨h3, h4⟩, h5, h6⟩ := h
  have r0 : (W.setCell ⟨w.heap.size + 1, 14, none⟩ (.slice al j cl)).heap[w.heap.size + 1]? = some (Obj.cells #[.string x.log, .int .i64 x.size, .string x.root, .int .i64 x.time, .int .i64 x.k, .slice ax x.el.length cx, .slice bx x.pl.length dx, .string y.log, .int .i64 y.size, .string y.root, .int .i64 y.time, .int .i64 y.k, .slice ay y.el.length cy, .slice by' y.pl.length dy, .slice al j cl] 28 (0, 0)) := heap_put2 _ h4 rfl
  have hg : W.grownBy (W.setCell ⟨w.heap.size + 1, 14, none⟩ (.slice al j cl)) (some (w.heap.size + 1)) := by
    iterate 1 (refine grown_cell ?_ _ _)
    exact rd_refl _ _
  have l3 := (Array.getElem?_eq_some_iff.1 h3).1
  exact ⟨⟨h1.block (hg.block _ h1.lt (by simp; omega)), ⟨(hg.block _ l3 (by simp)).trans h3, r0⟩, grown_own h5 hg (by omega), h6⟩, hg⟩
theorem RfMid.cells {s : ByteArray} {p : Nat} {w : World} {st : Option Int} {v0 v1 v2 v3 v4 v5 v6 v7 v8 v9 v10 v11 v12 v13 v14 : Value} {W : World} (h : RfMid s p w st #[v0, v1, v2, v3, v4, v5, v6, v7, v8, v9, v10, v11, v12, v13, v14] W) :
    (W.cell? ⟨w.heap.size + 1, 0, none⟩ = some (v0) ∧ W.cell? ⟨w.heap.size + 1, 1, none⟩ = some (v1) ∧ W.cell? ⟨w.heap.size + 1, 2, none⟩ = some (v2) ∧ W.cell? ⟨w.heap.size + 1, 3, none⟩ = some (v3) ∧ W.cell? ⟨w.heap.size + 1, 4, none⟩ = some (v4) ∧ W.cell? ⟨w.heap.size + 1, 5, none⟩ = some (v5) ∧ W.cell? ⟨w.heap.size + 1, 6, none⟩ = some (v6) ∧ W.cell? ⟨w.heap.size + 1, 7, none⟩ = some (v7) ∧ W.cell? ⟨w.heap.size + 1, 8, none⟩ = some (v8) ∧ W.cell? ⟨w.heap.size + 1, 9, none⟩ = some (v9) ∧ W.cell? ⟨w.heap.size + 1, 10, none⟩ = some (v10) ∧ W.cell? ⟨w.heap.size + 1, 11, none⟩ = some (v11) ∧ W.cell? ⟨w.heap.size + 1, 12, none⟩ = some (v12) ∧ W.cell? ⟨w.heap.size + 1, 13, none⟩ = some (v13) ∧ W.cell? ⟨w.heap.size + 1, 14, none⟩ = some (v14)) ∧ (W.frozen? ⟨w.heap.size + 1, 0, none⟩ = false ∧ W.frozen? ⟨w.heap.size + 1, 1, none⟩ = false ∧ W.frozen? ⟨w.heap.size + 1, 2, none⟩ = false ∧ W.frozen? ⟨w.heap.size + 1, 3, none⟩ = false ∧ W.frozen? ⟨w.heap.size + 1, 4, none⟩ = false ∧ W.frozen? ⟨w.heap.size + 1, 5, none⟩ = false ∧ W.frozen? ⟨w.heap.size + 1, 6, none⟩ = false ∧ W.frozen? ⟨w.heap.size + 1, 7, none⟩ = false ∧ W.frozen? ⟨w.heap.size + 1, 8, none⟩ = false ∧ W.frozen? ⟨w.heap.size + 1, 9, none⟩ = false ∧ W.frozen? ⟨w.heap.size + 1, 10, none⟩ = false ∧ W.frozen? ⟨w.heap.size + 1, 11, none⟩ = false ∧ W.frozen? ⟨w.heap.size + 1, 12, none⟩ = false ∧ W.frozen? ⟨w.heap.size + 1, 13, none⟩ = false ∧ W.frozen? ⟨w.heap.size + 1, 14, none⟩ = false) := by
  obtain ⟨_, ⟨_, h4⟩, _⟩ := h
  have r := row_here h4
  have q := row_free h4
  exact ⟨⟨r 0 _ rfl, r 1 _ rfl, r 2 _ rfl, r 3 _ rfl, r 4 _ rfl, r 5 _ rfl, r 6 _ rfl, r 7 _ rfl, r 8 _ rfl, r 9 _ rfl, r 10 _ rfl, r 11 _ rfl, r 12 _ rfl, r 13 _ rfl, r 14 _ rfl⟩, q 0, q 1, q 2, q 3, q 4, q 5, q 6, q 7, q 8, q 9, q 10, q 11, q 12, q 13, q 14⟩

set_option maxHeartbeats 4000000 in
set_option maxRecDepth 10000 in
theorem rdFraud_any (s : ByteArray) (hs : ¬ 20000 < (s.size : Int)) (p : Nat) (w : World) (h : Rd s p (some 0) w) :
    Calls Try.prog 19 #[.pointer (some ⟨p, 0, none⟩)] w fun e w' => FraudRd s p w e w' := by
  obtain ⟨W, hW⟩ : ∃ W, W = (w.alloc (.cells #[.string ⟨#[]⟩, .int .i64 0, .string ⟨#[]⟩, .int .i64 0, .int .i64 0, .slice none 0 0, .slice none 0 0, .string ⟨#[]⟩, .int .i64 0, .string ⟨#[]⟩, .int .i64 0, .int .i64 0, .slice none 0 0, .slice none 0 0, .slice none 0 0] 28)).alloc (.cells #[.string ⟨#[]⟩, .int .i64 0, .string ⟨#[]⟩, .int .i64 0, .int .i64 0, .slice none 0 0, .slice none 0 0, .string ⟨#[]⟩, .int .i64 0, .string ⟨#[]⟩, .int .i64 0, .int .i64 0, .slice none 0 0, .slice none 0 0, .slice none 0 0] 28) := ⟨_, rfl⟩
  have hlt := h.lt
  have hbW : Below w.heap.size w W := by rw [hW]; exact ((Below.refl _ _).alloc (Nat.le_refl _) _).alloc (by simp) _
  have H0 : Hid (RfMid s p w (some 0) #[.string ⟨#[]⟩, .int .i64 0, .string ⟨#[]⟩, .int .i64 0, .int .i64 0, .slice none 0 0, .slice none 0 0, .string ⟨#[]⟩, .int .i64 0, .string ⟨#[]⟩, .int .i64 0, .int .i64 0, .slice none 0 0, .slice none 0 0, .slice none 0 0] W) := ⟨h.block (hbW.block p hlt), ⟨by rw [hW]; exact heap_alloc2_old w _ _, by rw [hW]; exact heap_alloc2_new w _ _⟩, row_below hbW _, hlt⟩
  have HW : Hid (W = (w.alloc (.cells #[.string ⟨#[]⟩, .int .i64 0, .string ⟨#[]⟩, .int .i64 0, .int .i64 0, .slice none 0 0, .slice none 0 0, .string ⟨#[]⟩, .int .i64 0, .string ⟨#[]⟩, .int .i64 0, .int .i64 0, .slice none 0 0, .slice none 0 0, .slice none 0 0] 28)).alloc (.cells #[.string ⟨#[]⟩, .int .i64 0, .string ⟨#[]⟩, .int .i64 0, .int .i64 0, .slice none 0 0, .slice none 0 0, .string ⟨#[]⟩, .int .i64 0, .string ⟨#[]⟩, .int .i64 0, .int .i64 0, .slice none 0 0, .slice none 0 0, .slice none 0 0] 28)) := hW
  have EH : Hid (∀ (st : Option Int) (w : World), Rd s p st w → Calls Try.prog 43 #[.pointer (some ⟨p, 0, none⟩)] w fun e w' => HeadRd s p st w e w') := fun st w h => rdHead_any s hs p st w h
  have HS : Hid (s.size ≤ 20000) := (by show s.size ≤ 20000; omega)
  clear h hbW hW hs hlt
  go_enter Try.func19, Try.ntmps19
  go_wp2_with fail
  rw [← HW.out]
  clear HW
  refine (EH.out (some 0) W H0.out.1).mono ?_
  rintro e w1 ⟨x, ve, vp, n1, rfl, ⟨o1, o2, o3, o4, o5⟩, hr, hgr, hx, hlx⟩
  obtain ⟨ax, cx, hv⟩ := o1.len
  subst hv
  obtain ⟨bx, dx, hv⟩ := o2.len
  subst hv
  have G1 : Hid (RfMid s p w (headsAt s).1.2.2 #[.string ⟨#[]⟩, .int .i64 0, .string ⟨#[]⟩, .int .i64 0, .int .i64 0, .slice none 0 0, .slice none 0 0, .string ⟨#[]⟩, .int .i64 0, .string ⟨#[]⟩, .int .i64 0, .int .i64 0, .slice none 0 0, .slice none 0 0, .slice none 0 0] w1) := H0.out.outer hr hgr
  have O1 : Hid (OwnT w1 w.heap.size (.slice ax x.el.length cx) x.el ∧ OwnT w1 n1 (.slice bx x.pl.length dx) x.pl ∧ (∀ g, (Value.slice ax x.el.length cx).ownBlock = some g → g < n1) ∧ w.heap.size ≤ n1 ∧ n1 ≤ w1.heap.size) := ⟨o1.lower H0.out.2.2.1.size, o2, o3, Nat.le_trans H0.out.2.2.1.size o4, o5⟩
  have X1 : Hid (((headsAt s).1.2.2 ≠ none → x = (headsAt s).1.1) ∧ x.log.size ≤ 20000 ∧ x.root.size ≤ 20000 ∧ x.el.length ≤ 6 ∧ x.pl.length ≤ 2) := ⟨hx, hlx⟩
  obtain ⟨⟨c0, c1, c2, c3, c4, c5, c6, c7, c8, c9, c10, c11, c12, c13, c14⟩, f0, f1, f2, f3, f4, f5, f6, f7, f8, f9, f10, f11, f12, f13, f14⟩ := G1.out.cells
  clear hr hgr o1 o2 o3 o4 o5 hx hlx H0
  obtain ⟨WA, HWA, H1, P1⟩ : ∃ WA, Hid (WA = (((((((w1.setCell ⟨w.heap.size + 1, 0, none⟩ (.string x.log)).setCell ⟨w.heap.size + 1, 1, none⟩ (.int .i64 x.size)).setCell ⟨w.heap.size + 1, 2, none⟩ (.string x.root)).setCell ⟨w.heap.size + 1, 3, none⟩ (.int .i64 x.time)).setCell ⟨w.heap.size + 1, 4, none⟩ (.int .i64 x.k)).setCell ⟨w.heap.size + 1, 5, none⟩ (.slice ax x.el.length cx)).setCell ⟨w.heap.size + 1, 6, none⟩ (.slice bx x.pl.length dx))) ∧ Hid (RfMid s p w (headsAt s).1.2.2 #[.string x.log, .int .i64 x.size, .string x.root, .int .i64 x.time, .int .i64 x.k, .slice ax x.el.length cx, .slice bx x.pl.length dx, .string ⟨#[]⟩, .int .i64 0, .string ⟨#[]⟩, .int .i64 0, .int .i64 0, .slice none 0 0, .slice none 0 0, .slice none 0 0] WA) ∧ Hid (OwnT WA w.heap.size (.slice ax x.el.length cx) x.el ∧ OwnT WA n1 (.slice bx x.pl.length dx) x.pl ∧ (∀ g, (Value.slice ax x.el.length cx).ownBlock = some g → g < n1) ∧ w.heap.size ≤ n1 ∧ n1 ≤ WA.heap.size) := by
    obtain ⟨h1, hg⟩ := RfMid.putA (x := x) (y := x) (ax := ax) (bx := bx) (cx := cx) (dx := dx) (ay := none) (by' := none) (al := none) (cy := 0) (dy := 0) (cl := 0) (j := 0) G1.out
    obtain ⟨o1, o2, o3, o4, o5⟩ := O1.out
    have hb := G1.out.2.1.2
    exact ⟨_, rfl, h1, o1.past hg hb (by decide), o2.past hg hb (by decide), o3, o4, Nat.le_trans o5 hg.size⟩
  clear G1 O1
  go_wp2_with fail
  rw [← HWA.out]
  clear HWA c0 c1 c2 c3 c4 c5 c6 c7 c8 c9 c10 c11 c12 c13 c14 f0 f1 f2 f3 f4 f5 f6 f7 f8 f9 f10 f11 f12 f13 f14
  refine (EH.out _ WA H1.out.1).mono ?_
  rintro e w2 ⟨y, ve, vp, n3, rfl, ⟨o1, o2, o3, o4, o5⟩, hr, hgr, hx, hlx⟩
  obtain ⟨ay, cy, hv⟩ := o1.len
  subst hv
  obtain ⟨by', dy, hv⟩ := o2.len
  subst hv
  have G2 : Hid (RfMid s p w (headsAt s).2.2.2 #[.string x.log, .int .i64 x.size, .string x.root, .int .i64 x.time, .int .i64 x.k, .slice ax x.el.length cx, .slice bx x.pl.length dx, .string ⟨#[]⟩, .int .i64 0, .string ⟨#[]⟩, .int .i64 0, .int .i64 0, .slice none 0 0, .slice none 0 0, .slice none 0 0] w2) := H1.out.outer hr hgr
  have O2 : Hid ((OwnT w2 w.heap.size (.slice ax x.el.length cx) x.el ∧ OwnT w2 n1 (.slice bx x.pl.length dx) x.pl ∧ OwnT w2 WA.heap.size (.slice ay y.el.length cy) y.el ∧ OwnT w2 n3 (.slice by' y.pl.length dy) y.pl) ∧ ((∀ g, (Value.slice ax x.el.length cx).ownBlock = some g → g < n1) ∧ (∀ g, (Value.slice bx x.pl.length dx).ownBlock = some g → g < WA.heap.size) ∧ (∀ g, (Value.slice ay y.el.length cy).ownBlock = some g → g < n3)) ∧ w.heap.size ≤ n1 ∧ n1 ≤ WA.heap.size ∧ WA.heap.size ≤ n3 ∧ n3 ≤ w2.heap.size) := by
    obtain ⟨p1, p2, p3, p4, p5⟩ := P1.out
    have hp := H1.out.2.2.2
    exact ⟨⟨p1.grown hgr hp, p2.grown hgr (by omega), o1, o2⟩, ⟨p3, fun g hg => (p2.block_lt g hg).2, o3⟩, p4, p5, o4, o5⟩
  have X2 : Hid (((headsAt s).2.2.2 ≠ none → y = (headsAt s).2.1) ∧ y.log.size ≤ 20000 ∧ y.root.size ≤ 20000 ∧ y.el.length ≤ 6 ∧ y.pl.length ≤ 2) := ⟨hx, hlx⟩
  obtain ⟨⟨c0, c1, c2, c3, c4, c5, c6, c7, c8, c9, c10, c11, c12, c13, c14⟩, f0, f1, f2, f3, f4, f5, f6, f7, f8, f9, f10, f11, f12, f13, f14⟩ := G2.out.cells
  clear hr hgr o1 o2 o3 o4 o5 hx hlx H1 P1
  generalize WA.heap.size = n2 at *
  obtain ⟨WB, HWB, H2, P2⟩ : ∃ WB, Hid (WB = (((((((w2.setCell ⟨w.heap.size + 1, 7, none⟩ (.string y.log)).setCell ⟨w.heap.size + 1, 8, none⟩ (.int .i64 y.size)).setCell ⟨w.heap.size + 1, 9, none⟩ (.string y.root)).setCell ⟨w.heap.size + 1, 10, none⟩ (.int .i64 y.time)).setCell ⟨w.heap.size + 1, 11, none⟩ (.int .i64 y.k)).setCell ⟨w.heap.size + 1, 12, none⟩ (.slice ay y.el.length cy)).setCell ⟨w.heap.size + 1, 13, none⟩ (.slice by' y.pl.length dy))) ∧ Hid (RfMid s p w (headsAt s).2.2.2 #[.string x.log, .int .i64 x.size, .string x.root, .int .i64 x.time, .int .i64 x.k, .slice ax x.el.length cx, .slice bx x.pl.length dx, .string y.log, .int .i64 y.size, .string y.root, .int .i64 y.time, .int .i64 y.k, .slice ay y.el.length cy, .slice by' y.pl.length dy, .slice none 0 0] WB) ∧ Hid ((OwnT WB w.heap.size (.slice ax x.el.length cx) x.el ∧ OwnT WB n1 (.slice bx x.pl.length dx) x.pl ∧ OwnT WB n2 (.slice ay y.el.length cy) y.el ∧ OwnT WB n3 (.slice by' y.pl.length dy) y.pl) ∧ ((∀ g, (Value.slice ax x.el.length cx).ownBlock = some g → g < n1) ∧ (∀ g, (Value.slice bx x.pl.length dx).ownBlock = some g → g < n2) ∧ (∀ g, (Value.slice ay y.el.length cy).ownBlock = some g → g < n3)) ∧ w.heap.size ≤ n1 ∧ n1 ≤ n2 ∧ n2 ≤ n3 ∧ n3 ≤ WB.heap.size) := by
    obtain ⟨h1, hg⟩ := RfMid.putB (x := x) (y := y) (ax := ax) (bx := bx) (cx := cx) (dx := dx) (ay := ay) (by' := by') (al := none) (cy := cy) (dy := dy) (cl := 0) (j := 0) G2.out
    obtain ⟨⟨o1, o2, o3, o4⟩, q, b1, b2, b3, b4⟩ := O2.out
    have hb := G2.out.2.1.2
    exact ⟨_, rfl, h1, ⟨o1.past hg hb (by decide), o2.past hg hb (by decide), o3.past hg hb (by decide), o4.past hg hb (by decide)⟩, q, b1, b2, b3, Nat.le_trans b4 hg.size⟩
  clear G2 O2
  go_wp2_with fail
  rw [← HWB.out]
  clear HWB c0 c1 c2 c3 c4 c5 c6 c7 c8 c9 c10 c11 c12 c13 c14 f0 f1 f2 f3 f4 f5 f6 f7 f8 f9 f10 f11 f12 f13 f14
  refine (num_any s (by have := HS.out; omega) p _ WB H2.out.1).mono ?_
  rintro e w3 ⟨rfl, hr, hgr⟩
  have HEN : Hid (fraudAt s = rdTexts s (rdNum s (headsAt s).2.2.2).2 (rdNum s (headsAt s).2.2.2).1.toNat) := rfl
  have HNB : Hid ((rdNum s (headsAt s).2.2.2).1 ≤ 9223372036854775807) := rdNum_le s _
  generalize (rdNum s (headsAt s).2.2.2).1 = num at *
  obtain ⟨st3, hst3⟩ : ∃ st3, st3 = (rdNum s (headsAt s).2.2.2).2 := ⟨_, rfl⟩
  rw [← hst3] at hr HEN
  have HSTUCK : Hid ((headsAt s).2.2.2 = none → st3 = none) := fun h => by rw [hst3, h]; rfl
  clear hst3
  have G3 : Hid (RfMid s p w st3 #[.string x.log, .int .i64 x.size, .string x.root, .int .i64 x.time, .int .i64 x.k, .slice ax x.el.length cx, .slice bx x.pl.length dx, .string y.log, .int .i64 y.size, .string y.root, .int .i64 y.time, .int .i64 y.k, .slice ay y.el.length cy, .slice by' y.pl.length dy, .slice none 0 0] w3) := H2.out.outer hr hgr
  have O3 : Hid ((OwnT w3 w.heap.size (.slice ax x.el.length cx) x.el ∧ OwnT w3 n1 (.slice bx x.pl.length dx) x.pl ∧ OwnT w3 n2 (.slice ay y.el.length cy) y.el ∧ OwnT w3 n3 (.slice by' y.pl.length dy) y.pl) ∧ ((∀ g, (Value.slice ax x.el.length cx).ownBlock = some g → g < n1) ∧ (∀ g, (Value.slice bx x.pl.length dx).ownBlock = some g → g < n2) ∧ (∀ g, (Value.slice ay y.el.length cy).ownBlock = some g → g < n3)) ∧ w.heap.size ≤ n1 ∧ n1 ≤ n2 ∧ n2 ≤ n3 ∧ n3 ≤ w3.heap.size) := by
    obtain ⟨⟨o1, o2, o3, o4⟩, q, b1, b2, b3, b4⟩ := P2.out
    have hp := H2.out.2.2.2
    exact ⟨⟨o1.grown hgr hp, o2.grown hgr (by omega), o3.grown hgr (by omega), o4.grown hgr (by omega)⟩, q, b1, b2, b3, Nat.le_trans b4 hgr.size⟩
  clear hr hgr H2 P2
  go_wp2_with fail
  refine (strs_any s (by have := HS.out; omega) p st3 num w3 G3.out.1 HNB.out).mono ?_
  rintro e w4 ⟨vl, j, rfl, hj, hj2, ⟨ho, hr, hgr⟩, hjj⟩
  obtain ⟨al, cl, hv⟩ := ho.len
  rw [rdTexts_length] at hv
  subst hv
  have G4 : Hid (RfMid s p w (rdTexts s st3 j).2 #[.string x.log, .int .i64 x.size, .string x.root, .int .i64 x.time, .int .i64 x.k, .slice ax x.el.length cx, .slice bx x.pl.length dx, .string y.log, .int .i64 y.size, .string y.root, .int .i64 y.time, .int .i64 y.k, .slice ay y.el.length cy, .slice by' y.pl.length dy, .slice none 0 0] w4) := G3.out.outer hr hgr
  have O4 : Hid (Owns5 w4 w.heap.size n1 n2 n3 w3.heap.size (.slice ax x.el.length cx) (.slice bx x.pl.length dx) (.slice ay y.el.length cy) (.slice by' y.pl.length dy) (.slice al j cl) x.el x.pl y.el y.pl (rdTexts s st3 j).1) := by
    obtain ⟨⟨o1, o2, o3, o4⟩, ⟨q1, q2, q3⟩, b1, b2, b3, b4⟩ := O3.out
    have hp := G3.out.2.2.2
    exact ⟨⟨o1.grown hgr hp, o2.grown hgr (by omega), o3.grown hgr (by omega), o4.grown hgr (by omega), ho⟩, ⟨q1, q2, q3, fun g hg => (o4.block_lt g hg).2⟩, b1, b2, b3, b4, hgr.size⟩
  have J4 : Hid (j ≤ num.toNat ∧ j ≤ 20001 ∧ (j = num.toNat ∨ (rdTexts s st3 j).2 = none)) := ⟨hj, hj2, hjj⟩
  obtain ⟨⟨c0, c1, c2, c3, c4, c5, c6, c7, c8, c9, c10, c11, c12, c13, c14⟩, f0, f1, f2, f3, f4, f5, f6, f7, f8, f9, f10, f11, f12, f13, f14⟩ := G4.out.cells
  clear hr hgr ho hj hj2 hjj G3 O3
  generalize w3.heap.size = n4 at *
  have k2 := row_here G4.out.2.1.1
  have q2 := row_free G4.out.2.1.1
  have k20 := k2 0 _ rfl
  have q20 := q2 0
  have k21 := k2 1 _ rfl
  have q21 := q2 1
  have k22 := k2 2 _ rfl
  have q22 := q2 2
  have k23 := k2 3 _ rfl
  have q23 := q2 3
  have k24 := k2 4 _ rfl
  have q24 := q2 4
  have k25 := k2 5 _ rfl
  have q25 := q2 5
  have k26 := k2 6 _ rfl
  have q26 := q2 6
  have k27 := k2 7 _ rfl
  have q27 := q2 7
  have k28 := k2 8 _ rfl
  have q28 := q2 8
  have k29 := k2 9 _ rfl
  have q29 := q2 9
  have k210 := k2 10 _ rfl
  have q210 := q2 10
  have k211 := k2 11 _ rfl
  have q211 := q2 11
  have k212 := k2 12 _ rfl
  have q212 := q2 12
  have k213 := k2 13 _ rfl
  have q213 := q2 13
  have k214 := k2 14 _ rfl
  have q214 := q2 14
  obtain ⟨WF, HWF, HANS, HRW⟩ : ∃ WF, Hid (WF = ((((((((((((((((w4.setCell ⟨w.heap.size + 1, 14, none⟩ (.slice al j cl)).setCell ⟨w.heap.size, 0, none⟩ (.string x.log)).setCell ⟨w.heap.size, 1, none⟩ (.int .i64 x.size)).setCell ⟨w.heap.size, 2, none⟩ (.string x.root)).setCell ⟨w.heap.size, 3, none⟩ (.int .i64 x.time)).setCell ⟨w.heap.size, 4, none⟩ (.int .i64 x.k)).setCell ⟨w.heap.size, 5, none⟩ (.slice ax x.el.length cx)).setCell ⟨w.heap.size, 6, none⟩ (.slice bx x.pl.length dx)).setCell ⟨w.heap.size, 7, none⟩ (.string y.log)).setCell ⟨w.heap.size, 8, none⟩ (.int .i64 y.size)).setCell ⟨w.heap.size, 9, none⟩ (.string y.root)).setCell ⟨w.heap.size, 10, none⟩ (.int .i64 y.time)).setCell ⟨w.heap.size, 11, none⟩ (.int .i64 y.k)).setCell ⟨w.heap.size, 12, none⟩ (.slice ay y.el.length cy)).setCell ⟨w.heap.size, 13, none⟩ (.slice by' y.pl.length dy)).setCell ⟨w.heap.size, 14, none⟩ (.slice al j cl))) ∧ Hid (FraudRd s p w (.returned (.agg #[.string x.log, .int .i64 x.size, .string x.root, .int .i64 x.time, .int .i64 x.k, .slice ax x.el.length cx, .slice bx x.pl.length dx, .string y.log, .int .i64 y.size, .string y.root, .int .i64 y.time, .int .i64 y.k, .slice ay y.el.length cy, .slice by' y.pl.length dy, .slice al j cl])) WF) ∧ Hid (WF.heap[w.heap.size]? = some (.cells #[.string x.log, .int .i64 x.size, .string x.root, .int .i64 x.time, .int .i64 x.k, .slice ax x.el.length cx, .slice bx x.pl.length dx, .string y.log, .int .i64 y.size, .string y.root, .int .i64 y.time, .int .i64 y.k, .slice ay y.el.length cy, .slice by' y.pl.length dy, .slice al j cl] 28 (0, 0))) := by
    obtain ⟨h1, hg⟩ := RfMid.putC (x := x) (y := y) (ax := ax) (bx := bx) (cx := cx) (dx := dx) (ay := ay) (by' := by') (cy := cy) (dy := dy) (al := al) (cl := cl) (j := j) G4.out
    obtain ⟨WC, hWC⟩ : ∃ WC, WC = (w4.setCell ⟨w.heap.size + 1, 14, none⟩ (.slice al j cl)) := ⟨_, rfl⟩
    rw [← hWC] at h1 hg ⊢
    obtain ⟨⟨o1, o2, o3, o4, o5⟩, q, b1, b2, b3, b4, b5⟩ := O4.out
    have hb := G4.out.2.1.2
    have hb2 := h1.2.1.1
    have hgf : WC.grownBy (((((((((((((((WC.setCell ⟨w.heap.size, 0, none⟩ (.string x.log)).setCell ⟨w.heap.size, 1, none⟩ (.int .i64 x.size)).setCell ⟨w.heap.size, 2, none⟩ (.string x.root)).setCell ⟨w.heap.size, 3, none⟩ (.int .i64 x.time)).setCell ⟨w.heap.size, 4, none⟩ (.int .i64 x.k)).setCell ⟨w.heap.size, 5, none⟩ (.slice ax x.el.length cx)).setCell ⟨w.heap.size, 6, none⟩ (.slice bx x.pl.length dx)).setCell ⟨w.heap.size, 7, none⟩ (.string y.log)).setCell ⟨w.heap.size, 8, none⟩ (.int .i64 y.size)).setCell ⟨w.heap.size, 9, none⟩ (.string y.root)).setCell ⟨w.heap.size, 10, none⟩ (.int .i64 y.time)).setCell ⟨w.heap.size, 11, none⟩ (.int .i64 y.k)).setCell ⟨w.heap.size, 12, none⟩ (.slice ay y.el.length cy)).setCell ⟨w.heap.size, 13, none⟩ (.slice by' y.pl.length dy)).setCell ⟨w.heap.size, 14, none⟩ (.slice al j cl)) (some w.heap.size) := by
      iterate 15 (refine grown_cell ?_ _ _)
      exact rd_refl _ _
    have z0 : (WC.setCell ⟨w.heap.size, 0, none⟩ (.string x.log)).heap[w.heap.size]? = some (Obj.cells #[.string x.log, .int .i64 0, .string ⟨#[]⟩, .int .i64 0, .int .i64 0, .slice none 0 0, .slice none 0 0, .string ⟨#[]⟩, .int .i64 0, .string ⟨#[]⟩, .int .i64 0, .int .i64 0, .slice none 0 0, .slice none 0 0, .slice none 0 0] 28 (0, 0)) := heap_put2 _ hb2 rfl
    have z1 : ((WC.setCell ⟨w.heap.size, 0, none⟩ (.string x.log)).setCell ⟨w.heap.size, 1, none⟩ (.int .i64 x.size)).heap[w.heap.size]? = some (Obj.cells #[.string x.log, .int .i64 x.size, .string ⟨#[]⟩, .int .i64 0, .int .i64 0, .slice none 0 0, .slice none 0 0, .string ⟨#[]⟩, .int .i64 0, .string ⟨#[]⟩, .int .i64 0, .int .i64 0, .slice none 0 0, .slice none 0 0, .slice none 0 0] 28 (0, 0)) := heap_put2 _ z0 rfl
    have z2 : (((WC.setCell ⟨w.heap.size, 0, none⟩ (.string x.log)).setCell ⟨w.heap.size, 1, none⟩ (.int .i64 x.size)).setCell ⟨w.heap.size, 2, none⟩ (.string x.root)).heap[w.heap.size]? = some (Obj.cells #[.string x.log, .int .i64 x.size, .string x.root, .int .i64 0, .int .i64 0, .slice none 0 0, .slice none 0 0, .string ⟨#[]⟩, .int .i64 0, .string ⟨#[]⟩, .int .i64 0, .int .i64 0, .slice none 0 0, .slice none 0 0, .slice none 0 0] 28 (0, 0)) := heap_put2 _ z1 rfl
    have z3 : ((((WC.setCell ⟨w.heap.size, 0, none⟩ (.string x.log)).setCell ⟨w.heap.size, 1, none⟩ (.int .i64 x.size)).setCell ⟨w.heap.size, 2, none⟩ (.string x.root)).setCell ⟨w.heap.size, 3, none⟩ (.int .i64 x.time)).heap[w.heap.size]? = some (Obj.cells #[.string x.log, .int .i64 x.size, .string x.root, .int .i64 x.time, .int .i64 0, .slice none 0 0, .slice none 0 0, .string ⟨#[]⟩, .int .i64 0, .string ⟨#[]⟩, .int .i64 0, .int .i64 0, .slice none 0 0, .slice none 0 0, .slice none 0 0] 28 (0, 0)) := heap_put2 _ z2 rfl
    have z4 : (((((WC.setCell ⟨w.heap.size, 0, none⟩ (.string x.log)).setCell ⟨w.heap.size, 1, none⟩ (.int .i64 x.size)).setCell ⟨w.heap.size, 2, none⟩ (.string x.root)).setCell ⟨w.heap.size, 3, none⟩ (.int .i64 x.time)).setCell ⟨w.heap.size, 4, none⟩ (.int .i64 x.k)).heap[w.heap.size]? = some (Obj.cells #[.string x.log, .int .i64 x.size, .string x.root, .int .i64 x.time, .int .i64 x.k, .slice none 0 0, .slice none 0 0, .string ⟨#[]⟩, .int .i64 0, .string ⟨#[]⟩, .int .i64 0, .int .i64 0, .slice none 0 0, .slice none 0 0, .slice none 0 0] 28 (0, 0)) := heap_put2 _ z3 rfl
    have z5 : ((((((WC.setCell ⟨w.heap.size, 0, none⟩ (.string x.log)).setCell ⟨w.heap.size, 1, none⟩ (.int .i64 x.size)).setCell ⟨w.heap.size, 2, none⟩ (.string x.root)).setCell ⟨w.heap.size, 3, none⟩ (.int .i64 x.time)).setCell ⟨w.heap.size, 4, none⟩ (.int .i64 x.k)).setCell ⟨w.heap.size, 5, none⟩ (.slice ax x.el.length cx)).heap[w.heap.size]? = some (Obj.cells #[.string x.log, .int .i64 x.size, .string x.root, .int .i64 x.time, .int .i64 x.k, .slice ax x.el.length cx, .slice none 0 0, .string ⟨#[]⟩, .int .i64 0, .string ⟨#[]⟩, .int .i64 0, .int .i64 0, .slice none 0 0, .slice none 0 0, .slice none 0 0] 28 (0, 0)) := heap_put2 _ z4 rfl
    have z6 : (((((((WC.setCell ⟨w.heap.size, 0, none⟩ (.string x.log)).setCell ⟨w.heap.size, 1, none⟩ (.int .i64 x.size)).setCell ⟨w.heap.size, 2, none⟩ (.string x.root)).setCell ⟨w.heap.size, 3, none⟩ (.int .i64 x.time)).setCell ⟨w.heap.size, 4, none⟩ (.int .i64 x.k)).setCell ⟨w.heap.size, 5, none⟩ (.slice ax x.el.length cx)).setCell ⟨w.heap.size, 6, none⟩ (.slice bx x.pl.length dx)).heap[w.heap.size]? = some (Obj.cells #[.string x.log, .int .i64 x.size, .string x.root, .int .i64 x.time, .int .i64 x.k, .slice ax x.el.length cx, .slice bx x.pl.length dx, .string ⟨#[]⟩, .int .i64 0, .string ⟨#[]⟩, .int .i64 0, .int .i64 0, .slice none 0 0, .slice none 0 0, .slice none 0 0] 28 (0, 0)) := heap_put2 _ z5 rfl
    have z7 : ((((((((WC.setCell ⟨w.heap.size, 0, none⟩ (.string x.log)).setCell ⟨w.heap.size, 1, none⟩ (.int .i64 x.size)).setCell ⟨w.heap.size, 2, none⟩ (.string x.root)).setCell ⟨w.heap.size, 3, none⟩ (.int .i64 x.time)).setCell ⟨w.heap.size, 4, none⟩ (.int .i64 x.k)).setCell ⟨w.heap.size, 5, none⟩ (.slice ax x.el.length cx)).setCell ⟨w.heap.size, 6, none⟩ (.slice bx x.pl.length dx)).setCell ⟨w.heap.size, 7, none⟩ (.string y.log)).heap[w.heap.size]? = some (Obj.cells #[.string x.log, .int .i64 x.size, .string x.root, .int .i64 x.time, .int .i64 x.k, .slice ax x.el.length cx, .slice bx x.pl.length dx, .string y.log, .int .i64 0, .string ⟨#[]⟩, .int .i64 0, .int .i64 0, .slice none 0 0, .slice none 0 0, .slice none 0 0] 28 (0, 0)) := heap_put2 _ z6 rfl
    have z8 : (((((((((WC.setCell ⟨w.heap.size, 0, none⟩ (.string x.log)).setCell ⟨w.heap.size, 1, none⟩ (.int .i64 x.size)).setCell ⟨w.heap.size, 2, none⟩ (.string x.root)).setCell ⟨w.heap.size, 3, none⟩ (.int .i64 x.time)).setCell ⟨w.heap.size, 4, none⟩ (.int .i64 x.k)).setCell ⟨w.heap.size, 5, none⟩ (.slice ax x.el.length cx)).setCell ⟨w.heap.size, 6, none⟩ (.slice bx x.pl.length dx)).setCell ⟨w.heap.size, 7, none⟩ (.string y.log)).setCell ⟨w.heap.size, 8, none⟩ (.int .i64 y.size)).heap[w.heap.size]? = some (Obj.cells #[.string x.log, .int .i64 x.size, .string x.root, .int .i64 x.time, .int .i64 x.k, .slice ax x.el.length cx, .slice bx x.pl.length dx, .string y.log, .int .i64 y.size, .string ⟨#[]⟩, .int .i64 0, .int .i64 0, .slice none 0 0, .slice none 0 0, .slice none 0 0] 28 (0, 0)) := heap_put2 _ z7 rfl
    have z9 : ((((((((((WC.setCell ⟨w.heap.size, 0, none⟩ (.string x.log)).setCell ⟨w.heap.size, 1, none⟩ (.int .i64 x.size)).setCell ⟨w.heap.size, 2, none⟩ (.string x.root)).setCell ⟨w.heap.size, 3, none⟩ (.int .i64 x.time)).setCell ⟨w.heap.size, 4, none⟩ (.int .i64 x.k)).setCell ⟨w.heap.size, 5, none⟩ (.slice ax x.el.length cx)).setCell ⟨w.heap.size, 6, none⟩ (.slice bx x.pl.length dx)).setCell ⟨w.heap.size, 7, none⟩ (.string y.log)).setCell ⟨w.heap.size, 8, none⟩ (.int .i64 y.size)).setCell ⟨w.heap.size, 9, none⟩ (.string y.root)).heap[w.heap.size]? = some (Obj.cells #[.string x.log, .int .i64 x.size, .string x.root, .int .i64 x.time, .int .i64 x.k, .slice ax x.el.length cx, .slice bx x.pl.length dx, .string y.log, .int .i64 y.size, .string y.root, .int .i64 0, .int .i64 0, .slice none 0 0, .slice none 0 0, .slice none 0 0] 28 (0, 0)) := heap_put2 _ z8 rfl
    have z10 : (((((((((((WC.setCell ⟨w.heap.size, 0, none⟩ (.string x.log)).setCell ⟨w.heap.size, 1, none⟩ (.int .i64 x.size)).setCell ⟨w.heap.size, 2, none⟩ (.string x.root)).setCell ⟨w.heap.size, 3, none⟩ (.int .i64 x.time)).setCell ⟨w.heap.size, 4, none⟩ (.int .i64 x.k)).setCell ⟨w.heap.size, 5, none⟩ (.slice ax x.el.length cx)).setCell ⟨w.heap.size, 6, none⟩ (.slice bx x.pl.length dx)).setCell ⟨w.heap.size, 7, none⟩ (.string y.log)).setCell ⟨w.heap.size, 8, none⟩ (.int .i64 y.size)).setCell ⟨w.heap.size, 9, none⟩ (.string y.root)).setCell ⟨w.heap.size, 10, none⟩ (.int .i64 y.time)).heap[w.heap.size]? = some (Obj.cells #[.string x.log, .int .i64 x.size, .string x.root, .int .i64 x.time, .int .i64 x.k, .slice ax x.el.length cx, .slice bx x.pl.length dx, .string y.log, .int .i64 y.size, .string y.root, .int .i64 y.time, .int .i64 0, .slice none 0 0, .slice none 0 0, .slice none 0 0] 28 (0, 0)) := heap_put2 _ z9 rfl
    have z11 : ((((((((((((WC.setCell ⟨w.heap.size, 0, none⟩ (.string x.log)).setCell ⟨w.heap.size, 1, none⟩ (.int .i64 x.size)).setCell ⟨w.heap.size, 2, none⟩ (.string x.root)).setCell ⟨w.heap.size, 3, none⟩ (.int .i64 x.time)).setCell ⟨w.heap.size, 4, none⟩ (.int .i64 x.k)).setCell ⟨w.heap.size, 5, none⟩ (.slice ax x.el.length cx)).setCell ⟨w.heap.size, 6, none⟩ (.slice bx x.pl.length dx)).setCell ⟨w.heap.size, 7, none⟩ (.string y.log)).setCell ⟨w.heap.size, 8, none⟩ (.int .i64 y.size)).setCell ⟨w.heap.size, 9, none⟩ (.string y.root)).setCell ⟨w.heap.size, 10, none⟩ (.int .i64 y.time)).setCell ⟨w.heap.size, 11, none⟩ (.int .i64 y.k)).heap[w.heap.size]? = some (Obj.cells #[.string x.log, .int .i64 x.size, .string x.root, .int .i64 x.time, .int .i64 x.k, .slice ax x.el.length cx, .slice bx x.pl.length dx, .string y.log, .int .i64 y.size, .string y.root, .int .i64 y.time, .int .i64 y.k, .slice none 0 0, .slice none 0 0, .slice none 0 0] 28 (0, 0)) := heap_put2 _ z10 rfl
    have z12 : (((((((((((((WC.setCell ⟨w.heap.size, 0, none⟩ (.string x.log)).setCell ⟨w.heap.size, 1, none⟩ (.int .i64 x.size)).setCell ⟨w.heap.size, 2, none⟩ (.string x.root)).setCell ⟨w.heap.size, 3, none⟩ (.int .i64 x.time)).setCell ⟨w.heap.size, 4, none⟩ (.int .i64 x.k)).setCell ⟨w.heap.size, 5, none⟩ (.slice ax x.el.length cx)).setCell ⟨w.heap.size, 6, none⟩ (.slice bx x.pl.length dx)).setCell ⟨w.heap.size, 7, none⟩ (.string y.log)).setCell ⟨w.heap.size, 8, none⟩ (.int .i64 y.size)).setCell ⟨w.heap.size, 9, none⟩ (.string y.root)).setCell ⟨w.heap.size, 10, none⟩ (.int .i64 y.time)).setCell ⟨w.heap.size, 11, none⟩ (.int .i64 y.k)).setCell ⟨w.heap.size, 12, none⟩ (.slice ay y.el.length cy)).heap[w.heap.size]? = some (Obj.cells #[.string x.log, .int .i64 x.size, .string x.root, .int .i64 x.time, .int .i64 x.k, .slice ax x.el.length cx, .slice bx x.pl.length dx, .string y.log, .int .i64 y.size, .string y.root, .int .i64 y.time, .int .i64 y.k, .slice ay y.el.length cy, .slice none 0 0, .slice none 0 0] 28 (0, 0)) := heap_put2 _ z11 rfl
    have z13 : ((((((((((((((WC.setCell ⟨w.heap.size, 0, none⟩ (.string x.log)).setCell ⟨w.heap.size, 1, none⟩ (.int .i64 x.size)).setCell ⟨w.heap.size, 2, none⟩ (.string x.root)).setCell ⟨w.heap.size, 3, none⟩ (.int .i64 x.time)).setCell ⟨w.heap.size, 4, none⟩ (.int .i64 x.k)).setCell ⟨w.heap.size, 5, none⟩ (.slice ax x.el.length cx)).setCell ⟨w.heap.size, 6, none⟩ (.slice bx x.pl.length dx)).setCell ⟨w.heap.size, 7, none⟩ (.string y.log)).setCell ⟨w.heap.size, 8, none⟩ (.int .i64 y.size)).setCell ⟨w.heap.size, 9, none⟩ (.string y.root)).setCell ⟨w.heap.size, 10, none⟩ (.int .i64 y.time)).setCell ⟨w.heap.size, 11, none⟩ (.int .i64 y.k)).setCell ⟨w.heap.size, 12, none⟩ (.slice ay y.el.length cy)).setCell ⟨w.heap.size, 13, none⟩ (.slice by' y.pl.length dy)).heap[w.heap.size]? = some (Obj.cells #[.string x.log, .int .i64 x.size, .string x.root, .int .i64 x.time, .int .i64 x.k, .slice ax x.el.length cx, .slice bx x.pl.length dx, .string y.log, .int .i64 y.size, .string y.root, .int .i64 y.time, .int .i64 y.k, .slice ay y.el.length cy, .slice by' y.pl.length dy, .slice none 0 0] 28 (0, 0)) := heap_put2 _ z12 rfl
    have z14 : (((((((((((((((WC.setCell ⟨w.heap.size, 0, none⟩ (.string x.log)).setCell ⟨w.heap.size, 1, none⟩ (.int .i64 x.size)).setCell ⟨w.heap.size, 2, none⟩ (.string x.root)).setCell ⟨w.heap.size, 3, none⟩ (.int .i64 x.time)).setCell ⟨w.heap.size, 4, none⟩ (.int .i64 x.k)).setCell ⟨w.heap.size, 5, none⟩ (.slice ax x.el.length cx)).setCell ⟨w.heap.size, 6, none⟩ (.slice bx x.pl.length dx)).setCell ⟨w.heap.size, 7, none⟩ (.string y.log)).setCell ⟨w.heap.size, 8, none⟩ (.int .i64 y.size)).setCell ⟨w.heap.size, 9, none⟩ (.string y.root)).setCell ⟨w.heap.size, 10, none⟩ (.int .i64 y.time)).setCell ⟨w.heap.size, 11, none⟩ (.int .i64 y.k)).setCell ⟨w.heap.size, 12, none⟩ (.slice ay y.el.length cy)).setCell ⟨w.heap.size, 13, none⟩ (.slice by' y.pl.length dy)).setCell ⟨w.heap.size, 14, none⟩ (.slice al j cl)).heap[w.heap.size]? = some (Obj.cells #[.string x.log, .int .i64 x.size, .string x.root, .int .i64 x.time, .int .i64 x.k, .slice ax x.el.length cx, .slice bx x.pl.length dx, .string y.log, .int .i64 y.size, .string y.root, .int .i64 y.time, .int .i64 y.k, .slice ay y.el.length cy, .slice by' y.pl.length dy, .slice al j cl] 28 (0, 0)) := heap_put2 _ z13 rfl
    refine ⟨_, rfl, ⟨x, y, (rdTexts s st3 j).1, _, _, _, _, _, n1, n2, n3, n4, rfl, ⟨⟨(o1.past hg hb (by decide)).past hgf hb2 (by decide), (o2.past hg hb (by decide)).past hgf hb2 (by decide), (o3.past hg hb (by decide)).past hgf hb2 (by decide), (o4.past hg hb (by decide)).past hgf hb2 (by decide), (o5.past hg hb (by decide)).past hgf hb2 (by decide)⟩, q, b1, b2, b3, b4, Nat.le_trans b5 (Nat.le_trans hg.size hgf.size)⟩, ?_, ?_, ?_, X1.out.2, X2.out.2, by rw [rdTexts_length]; exact J4.out.2.1⟩, z14⟩
    · have e : (fraudAt s).2 = (rdTexts s st3 j).2 := by
        rw [HEN.out]
        exact rdTexts_end J4.out.1 J4.out.2.2
      rw [e]
      exact h1.1.block (hgf.block _ h1.1.lt (by have := h1.2.2.2; simp; omega))
    · exact grown_own h1.2.2.1 hgf (Nat.le_refl _)
    · intro hne
      have hne' := hne
      obtain ⟨i1, i2⟩ := fraudAt_heads hne
      rw [HEN.out] at hne ⊢
      refine ⟨X1.out.1 i1, X2.out.1 i2, ?_⟩
      rcases J4.out.2.2 with h | h
      · rw [h]
      · exfalso
        rw [rdTexts_end J4.out.1 (.inr h), h] at hne
        exact hne rfl
  clear J4 G4 HEN HSTUCK O4 k2 q2 X1 X2 HNB EH HS
  go_wp2
  rw [← HWF.out]
  have v := row_here HRW.out
  have v0 := v 0 _ rfl
  have v1 := v 1 _ rfl
  have v2 := v 2 _ rfl
  have v3 := v 3 _ rfl
  have v4 := v 4 _ rfl
  have v5 := v 5 _ rfl
  have v6 := v 6 _ rfl
  have v7 := v 7 _ rfl
  have v8 := v 8 _ rfl
  have v9 := v 9 _ rfl
  have v10 := v 10 _ rfl
  have v11 := v 11 _ rfl
  have v12 := v 12 _ rfl
  have v13 := v 13 _ rfl
  have v14 := v 14 _ rfl
  exact bodyPost_ret (v := .agg #[.string x.log, .int .i64 x.size, .string x.root, .int .i64 x.time, .int .i64 x.k, .slice ax x.el.length cx, .slice bx x.pl.length dx, .string y.log, .int .i64 y.size, .string y.root, .int .i64 y.time, .int .i64 y.k, .slice ay y.el.length cy, .slice by' y.pl.length dy, .slice al j cl]) (by simp [results, Try.results19, go_sem, v0, v1, v2, v3, v4, v5, v6, v7, v8, v9, v10, v11, v12, v13, v14]) rfl HANS.out
end Go.Proofs.Ytpglcbidfghfkaa
