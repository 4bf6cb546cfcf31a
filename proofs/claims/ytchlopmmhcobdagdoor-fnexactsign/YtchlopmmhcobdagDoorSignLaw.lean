/-
  The walk of the exact law of Sign. Condition: the program's variable holds the rounds' numbers.
-/
import Derived.Test.YtchlopmmhcobdagDoorSpecSignTop
import Derived.Test.YtchlopmmhcobdagDoorImplSignTop
import Derived.Test.YtchlopmmhcobdagDoorSigLaws
namespace Go.Proofs.YtchlopmmhcobdagDoor
open Go.RowKit Go.Lib
set_option linter.unusedVariables false
set_option linter.unusedSimpArgs false

theorem sigEnds_len (s : ByteArray) (k : Int) (t : ByteArray) : (sigEnds s k t).length ≤ 6 := by
  unfold sigEnds endsB
  split <;> simp
theorem sigPath_len (s : ByteArray) (k : Int) (t : ByteArray) : (sigPath s k t).length ≤ 5 := by
  unfold sigPath
  split
  · have := pathB_len (pubsB s).length (pubsB s) k.toNat rfl
    rw [pubsB_len] at this
    omega
  · simp
/-- Behind the calls: the document's answer in block b7, the program's in block b8, its rows its own. -/
def MidSig (w wX : World) (b7 n3 n b8 : Nat) (k : Int) (vs vq ve vp : Value) (E P ge gp : List ByteArray) : Prop :=
  Below w.heap.size w wX ∧ w.heap.size ≤ b7 ∧ b7 < n3 ∧ n3 ≤ n ∧ n ≤ b8 ∧ b8 < wX.heap.size ∧
  wX.heap[b7]? = some (.cells #[.int .i64 k, vs, vq] 26 (0, 0)) ∧ wX.heap[b8]? = some (.cells #[.int .i64 k, ve, vp] 26 (0, 0)) ∧
  Texts wX b7 vs E ∧ Texts wX b7 vq P ∧ OwnT wX n3 ve ge ∧ OwnT wX n vp gp ∧ (∀ g, ve.ownBlock = some g → g < n) ∧ (∀ g, vp.ownBlock = some g → g < b8)
theorem MidSig.below {w wX wY : World} {b7 n3 n b8 : Nat} {k : Int} {vs vq ve vp : Value} {E P ge gp : List ByteArray} (h : MidSig w wX b7 n3 n b8 k vs vq ve vp E P ge gp) (hb : Below wX.heap.size wX wY) : MidSig w wY b7 n3 n b8 k vs vq ve vp E P ge gp := by
  obtain ⟨h1, h2, h3, h4, h5, h6, h7, h8, h9, h10, h11, h12, h13, h14⟩ := h
  exact ⟨h1.trans (hb.mono h1.size), h2, h3, h4, h5, Nat.lt_of_lt_of_le h6 hb.size, (hb.block _ (by omega)).trans h7, (hb.block _ h6).trans h8, h9.below (hb.mono (by omega)), h10.below (hb.mono (by omega)), h11.below hb (Nat.le_refl _), h12.below hb (Nat.le_refl _), h13, h14⟩
theorem MidSig.mark {w wX wY : World} {b7 n3 n b8 : Nat} {k : Int} {vs vq ve vp : Value} {E P ge gp ge' gp' : List ByteArray} (h : MidSig w wX b7 n3 n b8 k vs vq ve vp E P ge gp) (hs : Spared wX wY ve vp) (ho1 : OwnT wY n3 ve ge') (ho2 : OwnT wY n vp gp') : MidSig w wY b7 n3 n b8 k vs vq ve vp E P ge' gp' := by
  obtain ⟨h1, h2, h3, h4, h5, h6, h7, h8, h9, h10, h11, h12, h13, h14⟩ := h
  have hv : ∀ g, ve.ownBlock = some g → n3 ≤ g := fun g hg => (World.ownsRow.lt h11 g hg).1
  have hu : ∀ g, vp.ownBlock = some g → n3 ≤ g := fun g hg => Nat.le_trans h4 (World.ownsRow.lt h12 g hg).1
  have hb := hs.below n3 (by omega) hv hu
  refine ⟨h1.trans (hb.mono (by omega)), h2, h3, h4, h5, Nat.lt_of_lt_of_le h6 hs.2.2.2.1, (hb.block _ h3).trans h7, ?_, h9.below (hb.mono (by omega)), h10.below (hb.mono (by omega)), ho1, ho2, h13, h14⟩
  exact (hs.2.2.2.2 b8 h6 (fun e => by have := h13 b8 e; omega) (fun e => by have := h14 b8 e; omega)).trans h8
theorem MidSig.reads {w wX : World} {b7 n3 n b8 : Nat} {k : Int} {vs vq ve vp : Value} {E P ge gp : List ByteArray} (h : MidSig w wX b7 n3 n b8 k vs vq ve vp E P ge gp) :
    (wX.cell? ⟨b7, 0, none⟩ = some (.int .i64 k) ∧ wX.cell? ⟨b7, 1, none⟩ = some vs ∧ wX.cell? ⟨b7, 2, none⟩ = some vq) ∧ (wX.cell? ⟨b8, 0, none⟩ = some (.int .i64 k) ∧ wX.cell? ⟨b8, 1, none⟩ = some ve ∧ wX.cell? ⟨b8, 2, none⟩ = some vp) := by
  obtain ⟨h1, h2, h3, h4, h5, h6, h7, h8, _⟩ := h
  exact ⟨(three_cells (Below.refl wX.heap.size wX) (show b7 < _ by omega) h7).1, (three_cells (Below.refl wX.heap.size wX) h6 h8).1⟩

set_option maxHeartbeats 4000000 in
set_option maxRecDepth 10000 in
theorem lawSign_any (s : ByteArray) (k : Int) (t : ByteArray) (w : World) (hs : s.size ≤ maxLen) (ht : t.size ≤ maxLen) (hK : Keys w) :
    Calls Tryd.prog 4 #[.string s, .int .i64 k, .string t] w fun e w' => e = .returned (.bool true) ∧ Below w.heap.size w w' := by
  unfold maxLen at hs ht
  by_cases hs1 : 1048576 < (s.size : Int)
  · go_enter Tryd.func4, Tryd.ntmps4
    go_wp2
    go_ret
    exact ⟨rfl, Below.refl _ _⟩
  by_cases ht1 : 1048576 < (t.size : Int)
  · go_enter Tryd.func4, Tryd.ntmps4
    go_wp2
    go_ret
    exact ⟨rfl, Below.refl _ _⟩
  have ES : Hid (∀ w, Calls Tryd.prog 8 #[.string s, .int .i64 k, .string t] w fun e w' => SigTold w (sigKey s k t) (sigEnds s k t) (sigPath s k t) e w') := fun w => specSign_any s k t w (by omega) (by omega)
  have EI : Hid (∀ w, Keys w → Calls Tryd.prog 9 #[.string s, .int .i64 k, .string t] w fun e w' => SigAns w (sigKey s k t) (sigEnds s k t) (sigPath s k t) e w') := fun w hK => implSign_any s k t w (by omega) (by omega) hK
  have hE := sigEnds_len s k t
  have hP := sigPath_len s k t
  generalize sigKey s k t = kk at *
  generalize sigEnds s k t = E at *
  generalize sigPath s k t = P at *
  have EQ : Hid (∀ (ve vp ue up : Value) (w : World), Texts w w.heap.size ve E → Texts w w.heap.size vp P → Texts w w.heap.size ue E → Texts w w.heap.size up P → Calls Tryd.prog 10 #[.agg #[.int .i64 kk, ve, vp], .agg #[.int .i64 kk, ue, up]] w fun e w' => e = .returned (.bool true) ∧ Below w.heap.size w w') := fun ve vp ue up w h1 h2 h3 h4 => eqSig_any kk ve vp ue up E P w h1 h2 h3 h4 (by omega) (by omega)
  have HK : Hid (Keys w) := hK
  have HL : Hid (E.length ≤ 6 ∧ P.length ≤ 5) := ⟨hE, hP⟩
  clear hK hs ht
  go_enter Tryd.func4, Tryd.ntmps4
  go_wp2_with fail
  refine (ES.out _).mono ?_
  rintro e w1 ⟨vs, vq, rfl, hT1, hT2, hb1⟩
  obtain ⟨a1, c1, rfl⟩ : ∃ a c, vs = .slice a E.length c := by obtain ⟨a, c, h, _⟩ := hT1; exact ⟨a, c, h⟩
  obtain ⟨a2, c2, rfl⟩ : ∃ a c, vq = .slice a P.length c := by obtain ⟨a, c, h, _⟩ := hT2; exact ⟨a, c, h⟩
  have H1 : Hid (Below w.heap.size w w1 ∧ Texts w1 w1.heap.size (.slice a1 E.length c1) E ∧ Texts w1 w1.heap.size (.slice a2 P.length c2) P) := ⟨hb1, hT1.texts, hT2.texts⟩
  obtain ⟨W1, hW1⟩ : ∃ W, W = w1.alloc (.cells #[.int .i64 kk, .slice a1 E.length c1, .slice a2 P.length c2] 26) := ⟨_, rfl⟩
  have H2 : Hid (Below w.heap.size w W1 ∧ W1.heap.size = w1.heap.size + 1 ∧ W1.heap[w1.heap.size]? = some (.cells #[.int .i64 kk, .slice a1 E.length c1, .slice a2 P.length c2] 26 (0, 0)) ∧ Below w1.heap.size w1 W1 ∧ Keys W1) := by
    rw [hW1]
    have hb : Below w.heap.size w (w1.alloc (.cells #[.int .i64 kk, .slice a1 E.length c1, .slice a2 P.length c2] 26)) := hb1.alloc hb1.size _
    exact ⟨hb, by simp, heap_alloc_new w1 _, (Below.refl _ _).alloc (Nat.le_refl _) _, HK.out.below hb HK.out.lt⟩
  have HW1 : Hid (W1 = w1.alloc (.cells #[.int .i64 kk, .slice a1 E.length c1, .slice a2 P.length c2] 26)) := hW1
  clear hT1 hT2 hb1 hW1
  go_wp2_with fail
  rw [← HW1.out]
  refine (EI.out _ H2.out.2.2.2.2).mono ?_
  rintro e w3 ⟨ve, vp, n, rfl, ho1, ho2, hlt, hn1, hn2, hb3⟩
  obtain ⟨a3, c3, rfl⟩ := ho1.len
  obtain ⟨a4, c4, rfl⟩ := ho2.len
  obtain ⟨W3, hW3⟩ : ∃ W, W = w3.alloc (.cells #[.int .i64 kk, .slice a3 E.length c3, .slice a4 P.length c4] 26) := ⟨_, rfl⟩
  have M3 : Hid (MidSig w W3 w1.heap.size W1.heap.size n w3.heap.size kk (.slice a1 E.length c1) (.slice a2 P.length c2) (.slice a3 E.length c3) (.slice a4 P.length c4) E P E P) := by
    have hal : Below w3.heap.size w3 W3 := by rw [hW3]; exact (Below.refl _ _).alloc (Nat.le_refl _) _
    have hb13 : Below w1.heap.size w1 W3 := H2.out.2.2.2.1.trans ((hb3.trans (hal.mono hb3.size)).mono (by have := H2.out.2.1; omega))
    have hz := H2.out.2.1
    refine ⟨H1.out.1.trans (hb13.mono H1.out.1.size), H1.out.1.size, by omega, hn1, hn2, ?_, ?_, ?_, H1.out.2.1.below hb13, H1.out.2.2.below hb13, ho1.below hal (Nat.le_refl _), ho2.below hal (Nat.le_refl _), hlt, fun g hg => (World.ownsRow.lt ho2 g hg).2⟩
    · rw [hW3]; simp
    · exact ((hb3.trans (hal.mono hb3.size)).block _ (by omega)).trans H2.out.2.2.1
    · rw [hW3]; exact heap_alloc_new w3 _
  have HW3 : Hid (W3 = w3.alloc (.cells #[.int .i64 kk, .slice a3 E.length c3, .slice a4 P.length c4] 26)) := hW3
  have hsz13 : w1.heap.size < w3.heap.size := by have := hb3.size; have := H2.out.2.1; omega
  obtain ⟨d0, d1, d2⟩ := (three_cells hb3 (show w1.heap.size < W1.heap.size by have := H2.out.2.1; omega) H2.out.2.2.1).1
  clear hb3 ho1 ho2 hlt hn1 hn2 hW3 H2 HW1 H1
  generalize W1.heap.size = n3 at *
  generalize hb7 : w1.heap.size = b7 at *
  clear hb7
  go_wp2_with fail
  rw [← HW3.out]
  clear d0 d1 d2 HW3
  generalize w3.heap.size = b8 at *
  have X3 : Hid (∀ W ge gp, MidSig w W b7 n3 n b8 kk (.slice a1 E.length c1) (.slice a2 P.length c2) (.slice a3 E.length c3) (.slice a4 P.length c4) E P ge gp → Texts W W.heap.size (.slice a1 E.length c1) E ∧ Texts W W.heap.size (.slice a2 P.length c2) P) := fun W ge gp h => ⟨h.2.2.2.2.2.2.2.2.1.up (by have := h.2.2.2.2.2.1; have := h.2.2.1; have := h.2.2.2.1; have := h.2.2.2.2.1; omega), h.2.2.2.2.2.2.2.2.2.1.up (by have := h.2.2.2.2.2.1; have := h.2.2.1; have := h.2.2.2.1; have := h.2.2.2.2.1; omega)⟩
  refine (EQ.out _ _ _ _ _ M3.out.2.2.2.2.2.2.2.2.2.2.1.texts M3.out.2.2.2.2.2.2.2.2.2.2.2.1.texts (X3.out _ _ _ M3.out).1 (X3.out _ _ _ M3.out).2).mono ?_
  rintro e w4 ⟨rfl, hb4⟩
  have M4 : Hid (MidSig w w4 b7 n3 n b8 kk (.slice a1 E.length c1) (.slice a2 P.length c2) (.slice a3 E.length c3) (.slice a4 P.length c4) E P E P) := M3.out.below hb4
  clear hb4 M3
  obtain ⟨⟨d0, d1, d2⟩, ⟨e0, e1, e2⟩⟩ := M4.out.reads
  have E5 : Hid (Calls Tryd.prog 11 #[.agg #[.int .i64 kk, .slice a3 E.length c3, .slice a4 P.length c4], .int .i64 1] w4 fun e w' => e = .returned (.int .i64 ((1 + E.length + P.length : Nat) : Int)) ∧ OwnT w' n3 (.slice a3 E.length c3) (marks 1 E.length) ∧ OwnT w' n (.slice a4 P.length c4) (marks (1 + E.length) P.length) ∧ Spared w4 w' (.slice a3 E.length c3) (.slice a4 P.length c4)) :=
    markSig_any kk _ _ E P 1 w4 n3 n M4.out.2.2.2.2.2.2.2.2.2.2.1 M4.out.2.2.2.2.2.2.2.2.2.2.2.1 M4.out.2.2.2.2.2.2.2.2.2.2.2.2.1 (by omega) (by omega) (by omega) (by omega)
  go_wp2_with fail
  refine E5.out.mono ?_
  rintro e w5 ⟨rfl, ho1, ho2, hsp⟩
  have M5 : Hid (MidSig w w5 b7 n3 n b8 kk (.slice a1 E.length c1) (.slice a2 P.length c2) (.slice a3 E.length c3) (.slice a4 P.length c4) E P (marks 1 E.length) (marks (1 + E.length) P.length)) := M4.out.mark hsp ho1 ho2
  clear ho1 ho2 hsp M4 E5 d0 d1 d2 e0 e1 e2
  obtain ⟨⟨d0, d1, d2⟩, ⟨e0, e1, e2⟩⟩ := M5.out.reads
  have EH : Hid (∀ W, OwnT W n3 (.slice a3 E.length c3) (marks 1 E.length) → OwnT W n (.slice a4 P.length c4) (marks (1 + E.length) P.length) → Calls Tryd.prog 12 #[.agg #[.int .i64 kk, .slice a3 E.length c3, .slice a4 P.length c4], .int .i64 1] W fun e w' => e = .returned (.int .i64 ((1 + E.length + P.length : Nat) : Int)) ∧ Below W.heap.size W w') := fun W h1 h2 => heldSig_any kk _ _ E.length P.length 1 W n3 n h1 h2 (by omega) (by omega) (by omega) (by omega)
  have hm : ¬ ((1 + E.length + P.length : Nat) : Int) < 0 := by omega
  obtain ⟨mm, hmm⟩ : ∃ mm : Int, mm = ((1 + E.length + P.length : Nat) : Int) := ⟨_, rfl⟩
  rw [← hmm] at hm EH
  rw [← hmm]
  clear hmm
  have hne : (mm != mm) = false := by simp
  go_wp2_with fail
  refine (EH.out _ M5.out.2.2.2.2.2.2.2.2.2.2.1 M5.out.2.2.2.2.2.2.2.2.2.2.2.1).mono ?_
  rintro e w6 ⟨rfl, hb6⟩
  have M6 : Hid (MidSig w w6 b7 n3 n b8 kk (.slice a1 E.length c1) (.slice a2 P.length c2) (.slice a3 E.length c3) (.slice a4 P.length c4) E P (marks 1 E.length) (marks (1 + E.length) P.length)) := M5.out.below hb6
  clear hb6 M5 d0 d1 d2 e0 e1 e2
  go_wp2_with fail
  refine (EI.out _ (HK.out.below M6.out.1 HK.out.lt)).mono ?_
  rintro e w7 ⟨ue, up, n7, rfl, ho1, ho2, _, _, _, hb7⟩
  obtain ⟨a5, c5, rfl⟩ := ho1.len
  obtain ⟨a6, c6, rfl⟩ := ho2.len
  have M7 : Hid (MidSig w w7 b7 n3 n b8 kk (.slice a1 E.length c1) (.slice a2 P.length c2) (.slice a3 E.length c3) (.slice a4 P.length c4) E P (marks 1 E.length) (marks (1 + E.length) P.length) ∧ Texts w7 w7.heap.size (.slice a5 E.length c5) E ∧ Texts w7 w7.heap.size (.slice a6 P.length c6) P) := ⟨M6.out.below hb7, ho1.texts, ho2.texts⟩
  clear ho1 ho2 hb7 M6
  obtain ⟨⟨d0, d1, d2⟩, ⟨e0, e1, e2⟩⟩ := M7.out.1.reads
  have hlt7 : b7 < w7.heap.size := by have h := M7.out.1; have := h.2.2.2.2.2.1; have := h.2.2.1; have := h.2.2.2.1; have := h.2.2.2.2.1; omega
  obtain ⟨W7, hW7⟩ : ∃ W, W = w7.alloc (.cells #[.int .i64 kk, .slice a5 E.length c5, .slice a6 P.length c6] 26) := ⟨_, rfl⟩
  have M8 : Hid (MidSig w W7 b7 n3 n b8 kk (.slice a1 E.length c1) (.slice a2 P.length c2) (.slice a3 E.length c3) (.slice a4 P.length c4) E P (marks 1 E.length) (marks (1 + E.length) P.length) ∧ Texts W7 W7.heap.size (.slice a5 E.length c5) E ∧ Texts W7 W7.heap.size (.slice a6 P.length c6) P) := by
    have hal : Below w7.heap.size w7 W7 := by rw [hW7]; exact (Below.refl _ _).alloc (Nat.le_refl _) _
    exact ⟨M7.out.1.below hal, (M7.out.2.1.below hal).up hal.size, (M7.out.2.2.below hal).up hal.size⟩
  have HW7 : Hid (W7 = w7.alloc (.cells #[.int .i64 kk, .slice a5 E.length c5, .slice a6 P.length c6] 26)) := hW7
  clear hW7 M7
  go_wp2_with fail
  rw [← HW7.out]
  clear d0 d1 d2 e0 e1 e2 HW7 hlt7
  refine (EQ.out _ _ _ _ _ M8.out.2.1 M8.out.2.2 (X3.out _ _ _ M8.out.1).1 (X3.out _ _ _ M8.out.1).2).mono ?_
  rintro e w9 ⟨rfl, hb9⟩
  have M9 : Hid (MidSig w w9 b7 n3 n b8 kk (.slice a1 E.length c1) (.slice a2 P.length c2) (.slice a3 E.length c3) (.slice a4 P.length c4) E P (marks 1 E.length) (marks (1 + E.length) P.length)) := M8.out.1.below hb9
  clear hb9 M8
  obtain ⟨⟨d0, d1, d2⟩, ⟨e0, e1, e2⟩⟩ := M9.out.reads
  go_wp2_with fail
  refine (EH.out _ M9.out.2.2.2.2.2.2.2.2.2.2.1 M9.out.2.2.2.2.2.2.2.2.2.2.2.1).mono ?_
  rintro e w10 ⟨rfl, hb10⟩
  have M10 : Hid (Below w.heap.size w w10) := (M9.out.below hb10).1
  clear hb10 M9
  go_wp2
  go_ret
  exact ⟨rfl, M10.out⟩
end Go.Proofs.YtchlopmmhcobdagDoor
