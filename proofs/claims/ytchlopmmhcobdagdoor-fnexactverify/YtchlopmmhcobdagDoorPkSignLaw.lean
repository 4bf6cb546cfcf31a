/-
  The walk of the exact law of Sign. Condition: the program's variable holds the rounds' numbers.
-/
import Derived.Test.YtchlopmmhcobdagDoorPkSpecSign
import Derived.Test.YtchlopmmhcobdagDoorPkImplSign
import Derived.Test.YtchlopmmhcobdagDoorPkSigLaws
import Derived.Test.YtchlopmmhcobdagDoorPkImplVerify
import Derived.Test.YtchlopmmhcobdagDoorPkTextRows
import Derived.Test.YtchlopmmhcobdagDoorPkTexts
import Derived.Deep.RegionWith
namespace Go.Proofs.YtchlopmmhcobdagDoor
open Go.RowKit Go.Lib
set_option linter.unusedVariables false
set_option linter.unusedSimpArgs false

theorem sigEnds_len (s : ByteArray) (k : Int) (t : ByteArray) : (sigEnds s k t).length ≤ 6 := by
  unfold sigEnds endsB
  split <;> simp
theorem sigPath_len (s : ByteArray) (k : Int) (t : ByteArray) : (sigPath s k t).length ≤ 5 := by
  unfold sigPath
  split
  · have := pathB_len (pubsB s).length (pubsB s) k.toNat rfl
    rw [pubsB_len] at this
    omega
  · simp
/-- Behind the calls: the document's answer in block b7, the program's in block b8, its rows its own. -/
def MidSig (w wX : World) (b7 n3 n b8 : Nat) (k : Int) (vs vq ve vp : Value) (E P ge gp : List ByteArray) : Prop :=
  Below w.heap.size w wX ∧ w.heap.size ≤ b7 ∧ b7 < n3 ∧ n3 ≤ n ∧ n ≤ b8 ∧ b8 < wX.heap.size ∧
  wX.heap[b7]? = some (.cells #[.int .i64 k, vs, vq] 26 (0, 0)) ∧ wX.heap[b8]? = some (.cells #[.int .i64 k, ve, vp] 26 (0, 0)) ∧
  Texts wX b7 vs E ∧ Texts wX b7 vq P ∧ OwnT wX n3 ve ge ∧ OwnT wX n vp gp ∧ (∀ g, ve.ownBlock = some g → g < n) ∧ (∀ g, vp.ownBlock = some g → g < b8)
theorem MidSig.below {w wX wY : World} {b7 n3 n b8 : Nat} {k : Int} {vs vq ve vp : Value} {E P ge gp : List ByteArray} (h : MidSig w wX b7 n3 n b8 k vs vq ve vp E P ge gp) (hb : Below wX.heap.size wX wY) : MidSig w wY b7 n3 n b8 k vs vq ve vp E P ge gp := by
  obtain ⟨h1, h2, h3, h4, h5, h6, h7, h8, h9, h10, h11, h12, h13, h14⟩ := h
  exact ⟨h1.trans (hb.mono h1.size), h2, h3, h4, h5, Nat.lt_of_lt_of_le h6 hb.size, (hb.block _ (by omega)).trans h7, (hb.block _ h6).trans h8, h9.below (hb.mono (by omega)), h10.below (hb.mono (by omega)), h11.below hb (Nat.le_refl _), h12.below hb (Nat.le_refl _), h13, h14⟩
theorem MidSig.mark {w wX wY : World} {b7 n3 n b8 : Nat} {k : Int} {vs vq ve vp : Value} {E P ge gp ge' gp' : List ByteArray} (h : MidSig w wX b7 n3 n b8 k vs vq ve vp E P ge gp) (hs : Spared wX wY ve vp) (ho1 : OwnT wY n3 ve ge') (ho2 : OwnT wY n vp gp') : MidSig w wY b7 n3 n b8 k vs vq ve vp E P ge' gp' := by
  obtain ⟨h1, h2, h3, h4, h5, h6, h7, h8, h9, h10, h11, h12, h13, h14⟩ := h
  have hv : ∀ g, ve.ownBlock = some g → n3 ≤ g := fun g hg => (World.ownsRow.lt h11 g hg).1
  have hu : ∀ g, vp.ownBlock = some g → n3 ≤ g := fun g hg => Nat.le_trans h4 (World.ownsRow.lt h12 g hg).1
  have hb := hs.below n3 (by omega) hv hu
  refine ⟨h1.trans (hb.mono (by omega)), h2, h3, h4, h5, Nat.lt_of_lt_of_le h6 hs.2.2.2.1, (hb.block _ h3).trans h7, ?_, h9.below (hb.mono (by omega)), h10.below (hb.mono (by omega)), ho1, ho2, h13, h14⟩
  exact (hs.2.2.2.2 b8 h6 (fun e => by have := h13 b8 e; omega) (fun e => by have := h14 b8 e; omega)).trans h8
theorem MidSig.reads {w wX : World} {b7 n3 n b8 : Nat} {k : Int} {vs vq ve vp : Value} {E P ge gp : List ByteArray} (h : MidSig w wX b7 n3 n b8 k vs vq ve vp E P ge gp) :
    (wX.cell? ⟨b7, 0, none⟩ = some (.int .i64 k) ∧ wX.cell? ⟨b7, 1, none⟩ = some vs ∧ wX.cell? ⟨b7, 2, none⟩ = some vq) ∧ (wX.cell? ⟨b8, 0, none⟩ = some (.int .i64 k) ∧ wX.cell? ⟨b8, 1, none⟩ = some ve ∧ wX.cell? ⟨b8, 2, none⟩ = some vp) := by
  obtain ⟨h1, h2, h3, h4, h5, h6, h7, h8, _⟩ := h
  exact ⟨(three_cells (Below.refl wX.heap.size wX) (show b7 < _ by omega) h7).1, (three_cells (Below.refl wX.heap.size wX) h6 h8).1⟩

set_option maxHeartbeats 4000000 in
set_option maxRecDepth 10000 in
theorem lawSign_any (s : ByteArray) (k : Int) (t : ByteArray) (w : World) (hs : s.size ≤ maxLen) (ht : t.size ≤ maxLen) (hK : Keys w) :
    Calls Tryd.prog 4 #[.string s, .int .i64 k, .string t] w fun e w' => e = .returned (.bool true) ∧ Below w.heap.size w w' := by
  unfold maxLen at hs ht
  by_cases hs1 : 1048576 < (s.size : Int)
  · go_enter Tryd.func4, Tryd.ntmps4
    go_wp2
    go_ret
    exact ⟨rfl, Below.refl _ _⟩
  by_cases ht1 : 1048576 < (t.size : Int)
  · go_enter Tryd.func4, Tryd.ntmps4
    go_wp2
    go_ret
    exact ⟨rfl, Below.refl _ _⟩
  have ES : Hid (∀ w, Calls Tryd.prog 8 #[.string s, .int .i64 k, .string t] w fun e w' => SigTold w (sigKey s k t) (sigEnds s k t) (sigPath s k t) e w') := fun w => specSign_any s k t w (by omega) (by omega)
  have EI : Hid (∀ w, Keys w → Calls Tryd.prog 9 #[.string s, .int .i64 k, .string t] w fun e w' => SigAns w (sigKey s k t) (sigEnds s k t) (sigPath s k t) e w') := fun w hK => implSign_any s k t w (by omega) (by omega) hK
  have hE := sigEnds_len s k t
  have hP := sigPath_len s k t
  generalize sigKey s k t = kk at *
  generalize sigEnds s k t = E at *
  generalize sigPath s k t = P at *
  have EQ : Hid (∀ (ve vp ue up : Value) (w : World), Texts w w.heap.size ve E → Texts w w.heap.size vp P → Texts w w.heap.size ue E → Texts w w.heap.size up P → Calls Tryd.prog 10 #[.agg #[.int .i64 kk, ve, vp], .agg #[.int .i64 kk, ue, up]] w fun e w' => e = .returned (.bool true) ∧ Below w.heap.size w w') := fun ve vp ue up w h1 h2 h3 h4 => eqSig_any kk ve vp ue up E P w h1 h2 h3 h4 (by omega) (by omega)
  have HK : Hid (Keys w) := hK
  have HL : Hid (E.length ≤ 6 ∧ P.length ≤ 5) := ⟨hE, hP⟩
  clear hK hs ht
  go_enter Tryd.func4, Tryd.ntmps4
  go_wp2_with fail
  refine (ES.out _).mono ?_
  rintro e w1 ⟨vs, vq, rfl, hT1, hT2, hb1⟩
  obtain ⟨a1, c1, rfl⟩ : ∃ a c, vs = .slice a E.length c := by obtain ⟨a, c, h, _⟩ := hT1; exact ⟨a, c, h⟩
  obtain ⟨a2, c2, rfl⟩ : ∃ a c, vq = .slice a P.length c := by obtain ⟨a, c, h, _⟩ := hT2; exact ⟨a, c, h⟩
  have H1 : Hid (Below w.heap.size w w1 ∧ Texts w1 w1.heap.size (.slice a1 E.length c1) E ∧ Texts w1 w1.heap.size (.slice a2 P.length c2) P) := ⟨hb1, hT1.texts, hT2.texts⟩
  obtain ⟨W1, hW1⟩ : ∃ W, W = w1.alloc (.cells #[.int .i64 kk, .slice a1 E.length c1, .slice a2 P.length c2] 26) := ⟨_, rfl⟩
  have H2 : Hid (Below w.heap.size w W1 ∧ W1.heap.size = w1.heap.size + 1 ∧ W1.heap[w1.heap.size]? = some (.cells #[.int .i64 kk, .slice a1 E.length c1, .slice a2 P.length c2] 26 (0, 0)) ∧ Below w1.heap.size w1 W1 ∧ Keys W1) := by
    rw [hW1]
    have hb : Below w.heap.size w (w1.alloc (.cells #[.int .i64 kk, .slice a1 E.length c1, .slice a2 P.length c2] 26)) := hb1.alloc hb1.size _
    exact ⟨hb, by simp, heap_alloc_new w1 _, (Below.refl _ _).alloc (Nat.le_refl _) _, HK.out.below hb HK.out.lt⟩
  have HW1 : Hid (W1 = w1.alloc (.cells #[.int .i64 kk, .slice a1 E.length c1, .slice a2 P.length c2] 26)) := hW1
  clear hT1 hT2 hb1 hW1
  go_wp2_with fail
  rw [← HW1.out]
  refine (EI.out _ H2.out.2.2.2.2).mono ?_
  rintro e w3 ⟨ve, vp, n, rfl, ho1, ho2, hlt, hn1, hn2, hb3⟩
  obtain ⟨a3, c3, rfl⟩ := ho1.len
  obtain ⟨a4, c4, rfl⟩ := ho2.len
  obtain ⟨W3, hW3⟩ : ∃ W, W = w3.alloc (.cells #[.int .i64 kk, .slice a3 E.length c3, .slice a4 P.length c4] 26) := ⟨_, rfl⟩
  have M3 : Hid (MidSig w W3 w1.heap.size W1.heap.size n w3.heap.size kk (.slice a1 E.length c1) (.slice a2 P.length c2) (.slice a3 E.length c3) (.slice a4 P.length c4) E P E P) := by
    have hal : Below w3.heap.size w3 W3 := by rw [hW3]; exact (Below.refl _ _).alloc (Nat.le_refl _) _
    have hb13 : Below w1.heap.size w1 W3 := H2.out.2.2.2.1.trans ((hb3.trans (hal.mono hb3.size)).mono (by have := H2.out.2.1; omega))
    have hz := H2.out.2.1
    refine ⟨H1.out.1.trans (hb13.mono H1.out.1.size), H1.out.1.size, by omega, hn1, hn2, ?_, ?_, ?_, H1.out.2.1.below hb13, H1.out.2.2.below hb13, ho1.below hal (Nat.le_refl _), ho2.below hal (Nat.le_refl _), hlt, fun g hg => (World.ownsRow.lt ho2 g hg).2⟩
    · rw [hW3]; simp
    · exact ((hb3.trans (hal.mono hb3.size)).block _ (by omega)).trans H2.out.2.2.1
    · rw [hW3]; exact heap_alloc_new w3 _
  have HW3 : Hid (W3 = w3.alloc (.cells #[.int .i64 kk, .slice a3 E.length c3, .slice a4 P.length c4] 26)) := hW3
  have hsz13 : w1.heap.size < w3.heap.size := by have := hb3.size; have := H2.out.2.1; omega
  obtain ⟨d0, d1, d2⟩ := (three_cells hb3 (show w1.heap.size < W1.heap.size by have := H2.out.2.1; omega) H2.out.2.2.1).1
  clear hb3 ho1 ho2 hlt hn1 hn2 hW3 H2 HW1 H1
  generalize W1.heap.size = n3 at *
  generalize hb7 : w1.heap.size = b7 at *
  clear hb7
  go_wp2_with fail
  rw [← HW3.out]
  clear d0 d1 d2 HW3
  generalize w3.heap.size = b8 at *
  have X3 : Hid (∀ W ge gp, MidSig w W b7 n3 n b8 kk (.slice a1 E.length c1) (.slice a2 P.length c2) (.slice a3 E.length c3) (.slice a4 P.length c4) E P ge gp → Texts W W.heap.size (.slice a1 E.length c1) E ∧ Texts W W.heap.size (.slice a2 P.length c2) P) := fun W ge gp h => ⟨h.2.2.2.2.2.2.2.2.1.up (by have := h.2.2.2.2.2.1; have := h.2.2.1; have := h.2.2.2.1; have := h.2.2.2.2.1; omega), h.2.2.2.2.2.2.2.2.2.1.up (by have := h.2.2.2.2.2.1; have := h.2.2.1; have := h.2.2.2.1; have := h.2.2.2.2.1; omega)⟩
  refine (EQ.out _ _ _ _ _ M3.out.2.2.2.2.2.2.2.2.2.2.1.texts M3.out.2.2.2.2.2.2.2.2.2.2.2.1.texts (X3.out _ _ _ M3.out).1 (X3.out _ _ _ M3.out).2).mono ?_
  rintro e w4 ⟨rfl, hb4⟩
  have M4 : Hid (MidSig w w4 b7 n3 n b8 kk (.slice a1 E.length c1) (.slice a2 P.length c2) (.slice a3 E.length c3) (.slice a4 P.length c4) E P E P) := M3.out.below hb4
  clear hb4 M3
  obtain ⟨⟨d0, d1, d2⟩, ⟨e0, e1, e2⟩⟩ := M4.out.reads
  have E5 : Hid (Calls Tryd.prog 11 #[.agg #[.int .i64 kk, .slice a3 E.length c3, .slice a4 P.length c4], .int .i64 1] w4 fun e w' => e = .returned (.int .i64 ((1 + E.length + P.length : Nat) : Int)) ∧ OwnT w' n3 (.slice a3 E.length c3) (marks 1 E.length) ∧ OwnT w' n (.slice a4 P.length c4) (marks (1 + E.length) P.length) ∧ Spared w4 w' (.slice a3 E.length c3) (.slice a4 P.length c4)) :=
    markSig_any kk _ _ E P 1 w4 n3 n M4.out.2.2.2.2.2.2.2.2.2.2.1 M4.out.2.2.2.2.2.2.2.2.2.2.2.1 M4.out.2.2.2.2.2.2.2.2.2.2.2.2.1 (by omega) (by omega) (by omega) (by omega)
  go_wp2_with fail
  refine E5.out.mono ?_
  rintro e w5 ⟨rfl, ho1, ho2, hsp⟩
  have M5 : Hid (MidSig w w5 b7 n3 n b8 kk (.slice a1 E.length c1) (.slice a2 P.length c2) (.slice a3 E.length c3) (.slice a4 P.length c4) E P (marks 1 E.length) (marks (1 + E.length) P.length)) := M4.out.mark hsp ho1 ho2
  clear ho1 ho2 hsp M4 E5 d0 d1 d2 e0 e1 e2
  obtain ⟨⟨d0, d1, d2⟩, ⟨e0, e1, e2⟩⟩ := M5.out.reads
  have EH : Hid (∀ W, OwnT W n3 (.slice a3 E.length c3) (marks 1 E.length) → OwnT W n (.slice a4 P.length c4) (marks (1 + E.length) P.length) → Calls Tryd.prog 12 #[.agg #[.int .i64 kk, .slice a3 E.length c3, .slice a4 P.length c4], .int .i64 1] W fun e w' => e = .returned (.int .i64 ((1 + E.length + P.length : Nat) : Int)) ∧ Below W.heap.size W w') := fun W h1 h2 => heldSig_any kk _ _ E.length P.length 1 W n3 n h1 h2 (by omega) (by omega) (by omega) (by omega)
  have hm : ¬ ((1 + E.length + P.length : Nat) : Int) < 0 := by omega
  obtain ⟨mm, hmm⟩ : ∃ mm : Int, mm = ((1 + E.length + P.length : Nat) : Int) := ⟨_, rfl⟩
  rw [← hmm] at hm EH
  rw [← hmm]
  clear hmm
  have hne : (mm != mm) = false := by simp
  go_wp2_with fail
  refine (EH.out _ M5.out.2.2.2.2.2.2.2.2.2.2.1 M5.out.2.2.2.2.2.2.2.2.2.2.2.1).mono ?_
  rintro e w6 ⟨rfl, hb6⟩
  have M6 : Hid (MidSig w w6 b7 n3 n b8 kk (.slice a1 E.length c1) (.slice a2 P.length c2) (.slice a3 E.length c3) (.slice a4 P.length c4) E P (marks 1 E.length) (marks (1 + E.length) P.length)) := M5.out.below hb6
  clear hb6 M5 d0 d1 d2 e0 e1 e2
  go_wp2_with fail
  refine (EI.out _ (HK.out.below M6.out.1 HK.out.lt)).mono ?_
  rintro e w7 ⟨ue, up, n7, rfl, ho1, ho2, _, _, _, hb7⟩
  obtain ⟨a5, c5, rfl⟩ := ho1.len
  obtain ⟨a6, c6, rfl⟩ := ho2.len
  have M7 : Hid (MidSig w w7 b7 n3 n b8 kk (.slice a1 E.length c1) (.slice a2 P.length c2) (.slice a3 E.length c3) (.slice a4 P.length c4) E P (marks 1 E.length) (marks (1 + E.length) P.length) ∧ Texts w7 w7.heap.size (.slice a5 E.length c5) E ∧ Texts w7 w7.heap.size (.slice a6 P.length c6) P) := ⟨M6.out.below hb7, ho1.texts, ho2.texts⟩
  clear ho1 ho2 hb7 M6
  obtain ⟨⟨d0, d1, d2⟩, ⟨e0, e1, e2⟩⟩ := M7.out.1.reads
  have hlt7 : b7 < w7.heap.size := by have h := M7.out.1; have := h.2.2.2.2.2.1; have := h.2.2.1; have := h.2.2.2.1; have := h.2.2.2.2.1; omega
  obtain ⟨W7, hW7⟩ : ∃ W, W = w7.alloc (.cells #[.int .i64 kk, .slice a5 E.length c5, .slice a6 P.length c6] 26) := ⟨_, rfl⟩
  have M8 : Hid (MidSig w W7 b7 n3 n b8 kk (.slice a1 E.length c1) (.slice a2 P.length c2) (.slice a3 E.length c3) (.slice a4 P.length c4) E P (marks 1 E.length) (marks (1 + E.length) P.length) ∧ Texts W7 W7.heap.size (.slice a5 E.length c5) E ∧ Texts W7 W7.heap.size (.slice a6 P.length c6) P) := by
    have hal : Below w7.heap.size w7 W7 := by rw [hW7]; exact (Below.refl _ _).alloc (Nat.le_refl _) _
    exact ⟨M7.out.1.below hal, (M7.out.2.1.below hal).up hal.size, (M7.out.2.2.below hal).up hal.size⟩
  have HW7 : Hid (W7 = w7.alloc (.cells #[.int .i64 kk, .slice a5 E.length c5, .slice a6 P.length c6] 26)) := hW7
  clear hW7 M7
  go_wp2_with fail
  rw [← HW7.out]
  clear d0 d1 d2 e0 e1 e2 HW7 hlt7
  refine (EQ.out _ _ _ _ _ M8.out.2.1 M8.out.2.2 (X3.out _ _ _ M8.out.1).1 (X3.out _ _ _ M8.out.1).2).mono ?_
  rintro e w9 ⟨rfl, hb9⟩
  have M9 : Hid (MidSig w w9 b7 n3 n b8 kk (.slice a1 E.length c1) (.slice a2 P.length c2) (.slice a3 E.length c3) (.slice a4 P.length c4) E P (marks 1 E.length) (marks (1 + E.length) P.length)) := M8.out.1.below hb9
  clear hb9 M8
  obtain ⟨⟨d0, d1, d2⟩, ⟨e0, e1, e2⟩⟩ := M9.out.reads
  go_wp2_with fail
  refine (EH.out _ M9.out.2.2.2.2.2.2.2.2.2.2.1 M9.out.2.2.2.2.2.2.2.2.2.2.2.1).mono ?_
  rintro e w10 ⟨rfl, hb10⟩
  have M10 : Hid (Below w.heap.size w w10) := (M9.out.below hb10).1
  clear hb10 M9
  go_wp2
  go_ret
  exact ⟨rfl, M10.out⟩
end Go.Proofs.YtchlopmmhcobdagDoor

/-
  The walk of the exact law of Verify. Condition: the program's variable holds the rounds' numbers.
-/
namespace Go.Proofs.YtchlopmmhcobdagDoor
open Go.RowKit Go.Lib
set_option linter.unusedVariables false
set_option linter.unusedSimpArgs false

set_option maxHeartbeats 2000000 in
set_option maxRecDepth 10000 in
theorem lawVerify_any (r t : ByteArray) (k : Int) (ve vp : Value) (el pl : List ByteArray) (w : World) (h1 : TextsArg w ve el) (h2 : TextsArg w vp pl) (hr : r.size ≤ maxLen) (ht : t.size ≤ maxLen) (hK : Keys w) :
    Calls Tryd.prog 5 #[.string r, .string t, .agg #[.int .i64 k, ve, vp]] w fun e w' => e = .returned (.bool true) ∧ Below w.heap.size w w' := by
  unfold maxLen at hr ht
  have HK : Hid (Keys w) := hK
  clear hK
  obtain ⟨a1, c1, rfl, _⟩ := id h1.1
  obtain ⟨a2, c2, rfl, _⟩ := id h2.1
  obtain ⟨W, hW⟩ : ∃ W, W = w.alloc (.cells #[.int .i64 k, .slice a1 el.length c1, .slice a2 pl.length c2] 31) := ⟨_, rfl⟩
  have hbW : Below w.heap.size w W := by rw [hW]; exact (Below.refl _ _).alloc (Nat.le_refl _) _
  have hgW : W.heap[w.heap.size]? = some (.cells #[.int .i64 k, .slice a1 el.length c1, .slice a2 pl.length c2] 31 (0, 0)) := by rw [hW]; exact heap_alloc_new w _
  have E0 : Hid (Calls Tryd.prog 13 #[.agg #[.int .i64 k, .slice a1 el.length c1, .slice a2 pl.length c2], .int .i64 1048576] W fun e w' => ∃ r : Int, e = .returned (.int .i64 r) ∧ -1048577 ≤ r ∧ r ≤ 1048576 ∧ (r < 0 ∨ (el.length ≤ 1048576 ∧ pl.length ≤ 1048576)) ∧ Below W.heap.size W w') :=
    szSig_any k _ _ el pl 1048576 W ⟨(h1.1.below hbW).up hbW.size, h1.2⟩ ⟨(h2.1.below hbW).up hbW.size, h2.2⟩ (by omega) (by omega)
  have H0 : Hid (Below w.heap.size w W ∧ W.heap[w.heap.size]? = some (.cells #[.int .i64 k, .slice a1 el.length c1, .slice a2 pl.length c2] 31 (0, 0)) ∧ Texts w w.heap.size (.slice a1 el.length c1) el ∧ Texts w w.heap.size (.slice a2 pl.length c2) pl) := ⟨hbW, hgW, h1.1, h2.1⟩
  have HW : Hid (W = w.alloc (.cells #[.int .i64 k, .slice a1 el.length c1, .slice a2 pl.length c2] 31)) := hW
  clear h1 h2 hW hbW hgW
  by_cases hr1 : 1048576 < (r.size : Int)
  · rw [HW.out] at H0
    go_enter Tryd.func5, Tryd.ntmps5
    go_wp2
    go_ret
    exact ⟨rfl, H0.out.1⟩
  by_cases ht1 : 1048576 < (t.size : Int)
  · rw [HW.out] at H0
    go_enter Tryd.func5, Tryd.ntmps5
    go_wp2
    go_ret
    exact ⟨rfl, H0.out.1⟩
  go_enter Tryd.func5, Tryd.ntmps5
  go_wp2_with fail
  rw [← HW.out]
  refine E0.out.mono ?_
  rintro e w1 ⟨rr, rfl, hr0, hr9, hrr, hb1⟩
  have hlW : w.heap.size < W.heap.size := (Array.getElem?_eq_some_iff.1 H0.out.2.1).1
  have H1 : Hid (Below w.heap.size w w1) := H0.out.1.trans (hb1.mono H0.out.1.size)
  by_cases hneg : rr < 0
  · clear hrr
    go_wp2
    go_ret
    exact ⟨rfl, H1.out⟩
  have HL : Hid (el.length ≤ 1048576 ∧ pl.length ≤ 1048576) := by
    rcases hrr with h | h
    · omega
    · exact h
  have HBX : Hid (w1.heap[w.heap.size]? = some (.cells #[.int .i64 k, .slice a1 el.length c1, .slice a2 pl.length c2] 31 (0, 0))) := (hb1.block _ hlW).trans H0.out.2.1
  have ET : Hid (∀ w', Below w.heap.size w w' → Calls Tryd.prog 15 #[.agg #[.int .i64 k, .slice a1 el.length c1, .slice a2 pl.length c2]] w' fun e w'' => SigOwn w' k el pl e w'') := fun w' hb => toSig_any k _ _ el pl w' ((H0.out.2.2.1.below hb).up hb.size) ((H0.out.2.2.2.below hb).up hb.size) HL.out.1 HL.out.2
  have ES : Hid (∀ ue up w', Texts w' w'.heap.size ue el → Texts w' w'.heap.size up pl → Calls Tryd.prog 14 #[.string r, .string t, .agg #[.int .i64 k, ue, up]] w' fun e w'' => e = .returned (.bool (verB r t k el pl)) ∧ Below w'.heap.size w' w'') := fun ue up w' a b => specVerify_any r t k ue up el pl w' a b HL.out.1 HL.out.2 (by omega) (by omega)
  have EI : Hid (∀ ue up w', Keys w' → Texts w' w'.heap.size ue el → Texts w' w'.heap.size up pl → Calls Tryd.prog 16 #[.string r, .string t, .agg #[.int .i64 k, ue, up]] w' fun e w'' => e = .returned (.bool (verB r t k el pl)) ∧ Below w'.heap.size w' w'') := fun ue up w' hK a b => implVerify_any r t k ue up el pl w' a b HL.out.1 HL.out.2 (by omega) (by omega) hK
  have EQ : Hid (∀ (xe xp ue up : Value) (w : World), Texts w w.heap.size xe el → Texts w w.heap.size xp pl → Texts w w.heap.size ue el → Texts w w.heap.size up pl → Calls Tryd.prog 10 #[.agg #[.int .i64 k, xe, xp], .agg #[.int .i64 k, ue, up]] w fun e w' => e = .returned (.bool true) ∧ Below w.heap.size w w') := fun xe xp ue up w a b c d => eqSig_any k xe xp ue up el pl w a b c d (Nat.le_succ_of_le HL.out.1) (Nat.le_succ_of_le HL.out.2)
  generalize verB r t k el pl = V at *
  obtain ⟨⟨b0, b1, b2⟩, _⟩ := three_cells (Below.refl w1.heap.size w1) (Array.getElem?_eq_some_iff.1 HBX.out).1 HBX.out
  clear hrr hb1 E0 H0 HW hlW
  go_wp2_with fail
  refine (ET.out _ H1.out).mono ?_
  rintro e w2 ⟨xe, xp, n2, rfl, ho1, ho2, _, _, _, hb2⟩
  have H2 : Hid (Below w.heap.size w w2 ∧ Texts w2 w2.heap.size xe el ∧ Texts w2 w2.heap.size xp pl ∧ w2.heap[w.heap.size]? = some (.cells #[.int .i64 k, .slice a1 el.length c1, .slice a2 pl.length c2] 31 (0, 0))) := ⟨H1.out.trans (hb2.mono H1.out.size), ho1.texts, ho2.texts, (hb2.block _ (Array.getElem?_eq_some_iff.1 HBX.out).1).trans HBX.out⟩
  clear ho1 ho2 hb2 HBX H1 b0 b1 b2
  go_wp2_with fail
  refine (ES.out _ _ _ H2.out.2.1 H2.out.2.2.1).mono ?_
  rintro e w3 ⟨rfl, hb3⟩
  have H3 : Hid (Below w.heap.size w w3 ∧ w3.heap[w.heap.size]? = some (.cells #[.int .i64 k, .slice a1 el.length c1, .slice a2 pl.length c2] 31 (0, 0))) := ⟨H2.out.1.trans (hb3.mono H2.out.1.size), (hb3.block _ (Array.getElem?_eq_some_iff.1 H2.out.2.2.2).1).trans H2.out.2.2.2⟩
  obtain ⟨⟨b0, b1, b2⟩, _⟩ := three_cells (Below.refl w3.heap.size w3) (Array.getElem?_eq_some_iff.1 H3.out.2).1 H3.out.2
  clear hb3 H2 ES
  go_wp2_with fail
  refine (ET.out _ H3.out.1).mono ?_
  rintro e w4 ⟨ye, yp, n4, rfl, ho1, ho2, _, _, _, hb4⟩
  obtain ⟨a3, c3, rfl⟩ := ho1.len
  obtain ⟨a4, c4, rfl⟩ := ho2.len
  obtain ⟨W4, hW4⟩ : ∃ W, W = w4.alloc (.cells #[.int .i64 k, .slice a3 el.length c3, .slice a4 pl.length c4] 26) := ⟨_, rfl⟩
  have H4 : Hid (Below w.heap.size w W4 ∧ Texts W4 w4.heap.size (.slice a3 el.length c3) el ∧ Texts W4 w4.heap.size (.slice a4 pl.length c4) pl ∧ W4.heap[w.heap.size]? = some (.cells #[.int .i64 k, .slice a1 el.length c1, .slice a2 pl.length c2] 31 (0, 0)) ∧ W4.heap[w4.heap.size]? = some (.cells #[.int .i64 k, .slice a3 el.length c3, .slice a4 pl.length c4] 26 (0, 0)) ∧ w4.heap.size < W4.heap.size) := by
    have hal : Below w4.heap.size w4 W4 := by rw [hW4]; exact (Below.refl _ _).alloc (Nat.le_refl _) _
    have hb : Below w3.heap.size w3 W4 := hb4.trans (hal.mono hb4.size)
    refine ⟨H3.out.1.trans (hb.mono H3.out.1.size), ho1.texts.below hal, ho2.texts.below hal, (hb.block _ (Array.getElem?_eq_some_iff.1 H3.out.2).1).trans H3.out.2, ?_, ?_⟩
    · rw [hW4]; exact heap_alloc_new w4 _
    · rw [hW4]; simp
  have HW4 : Hid (W4 = w4.alloc (.cells #[.int .i64 k, .slice a3 el.length c3, .slice a4 pl.length c4] 26)) := hW4
  clear ho1 ho2 hb4 H3 b0 b1 b2 hW4
  go_wp2_with fail
  rw [← HW4.out]
  clear HW4
  generalize hq : w4.heap.size = q at *
  clear hq
  refine (EI.out _ _ _ (HK.out.below H4.out.1 HK.out.lt) (H4.out.2.1.up (Nat.le_of_lt H4.out.2.2.2.2.2)) (H4.out.2.2.1.up (Nat.le_of_lt H4.out.2.2.2.2.2))).mono ?_
  rintro e w5 ⟨rfl, hb5⟩
  have hqw : w.heap.size < W4.heap.size := (Array.getElem?_eq_some_iff.1 H4.out.2.2.2.1).1
  have H5 : Hid (Below w.heap.size w w5 ∧ Texts w5 q (.slice a3 el.length c3) el ∧ Texts w5 q (.slice a4 pl.length c4) pl ∧ w5.heap[w.heap.size]? = some (.cells #[.int .i64 k, .slice a1 el.length c1, .slice a2 pl.length c2] 31 (0, 0)) ∧ w5.heap[q]? = some (.cells #[.int .i64 k, .slice a3 el.length c3, .slice a4 pl.length c4] 26 (0, 0)) ∧ q < w5.heap.size) :=
    ⟨H4.out.1.trans (hb5.mono H4.out.1.size), H4.out.2.1.below (hb5.mono (Nat.le_of_lt H4.out.2.2.2.2.2)), H4.out.2.2.1.below (hb5.mono (Nat.le_of_lt H4.out.2.2.2.2.2)), (hb5.block _ hqw).trans H4.out.2.2.2.1, (hb5.block _ H4.out.2.2.2.2.2).trans H4.out.2.2.2.2.1, Nat.lt_of_lt_of_le H4.out.2.2.2.2.2 hb5.size⟩
  clear hb5 hqw H4 EI
  obtain ⟨⟨b0, b1, b2⟩, _⟩ := three_cells (Below.refl w5.heap.size w5) (Array.getElem?_eq_some_iff.1 H5.out.2.2.2.1).1 H5.out.2.2.2.1
  obtain ⟨⟨d0, d1, d2⟩, _⟩ := three_cells (Below.refl w5.heap.size w5) H5.out.2.2.2.2.2 H5.out.2.2.2.2.1
  have hVV : (V != V) = false := by simp
  have c0' : w5.drew.cell? ⟨w.heap.size, 0, none⟩ = some (.int .i64 k) := b0
  have c1' : w5.drew.cell? ⟨w.heap.size, 1, none⟩ = some (.slice a1 el.length c1) := b1
  have c2' : w5.drew.cell? ⟨w.heap.size, 2, none⟩ = some (.slice a2 pl.length c2) := b2
  have e0' : w5.drew.cell? ⟨q, 0, none⟩ = some (.int .i64 k) := d0
  have e1' : w5.drew.cell? ⟨q, 1, none⟩ = some (.slice a3 el.length c3) := d1
  have e2' : w5.drew.cell? ⟨q, 2, none⟩ = some (.slice a4 pl.length c4) := d2
  have HQ5 : Hid (q < w5.heap.size) := H5.out.2.2.2.2.2
  have HBD : Hid (Below w.heap.size w w5.drew) := below_drew' H5.out.1
  go_wp2_with fail
  go_region_with (first
    | (go_at_call 15; refine (ET.out _ ?_).mono ?_; exact HBD.out; rintro e w6 ⟨ze, zp, n6, rfl, ho1, ho2, _, _, _, hb6⟩; obtain ⟨⟨d3, d4, d5⟩, _⟩ := three_cells (below_drew hb6) HQ5.out H5.out.2.2.2.2.1; have H6 : Hid (Below w.heap.size w w6 ∧ Texts w6 w6.heap.size (.slice a3 el.length c3) el ∧ Texts w6 w6.heap.size (.slice a4 pl.length c4) pl ∧ Texts w6 w6.heap.size ze el ∧ Texts w6 w6.heap.size zp pl) := ⟨H5.out.1.trans ((below_drew hb6).mono H5.out.1.size), (H5.out.2.1.below ((below_drew hb6).mono (Nat.le_of_lt HQ5.out))).up (Nat.le_trans (Nat.le_of_lt HQ5.out) (below_drew hb6).size), (H5.out.2.2.1.below ((below_drew hb6).mono (Nat.le_of_lt HQ5.out))).up (Nat.le_trans (Nat.le_of_lt HQ5.out) (below_drew hb6).size), ho1.texts, ho2.texts⟩; clear ho1 ho2 hb6)
    | (go_at_call 10; refine (EQ.out _ _ _ _ _ ?_ ?_ ?_ ?_).mono ?_; exact H6.out.2.1; exact H6.out.2.2.1; exact H6.out.2.2.2.1; exact H6.out.2.2.2.2; rintro e w7 ⟨rfl, hb7⟩; have H7 : Hid (Below w.heap.size w w7) := H6.out.1.trans (hb7.mono H6.out.1.size); clear hb7))
  all_goals
    go_wp2
    go_ret
    exact ⟨rfl, H7.out⟩
end Go.Proofs.YtchlopmmhcobdagDoor
