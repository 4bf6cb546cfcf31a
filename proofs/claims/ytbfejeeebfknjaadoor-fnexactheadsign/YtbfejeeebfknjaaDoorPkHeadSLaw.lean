/-
  The walk of the exact law of HeadSign. Condition: the program's variable holds the rounds' numbers.
-/
import Derived.Test.YtbfejeeebfknjaaDoorPkSpecSign
import Derived.Test.YtbfejeeebfknjaaDoorPkImplHeadS
import Derived.Test.YtbfejeeebfknjaaDoorPkSigLaws
import Derived.Test.YtbfejeeebfknjaaDoorPkTextRows
namespace Go.Proofs.YtbfejeeebfknjaaDoor
open Go.RowKit Go.Lib
set_option linter.unusedVariables false
set_option linter.unusedSimpArgs false

/-- Behind the calls: the document's answer in block b7, the program's in block b8, its rows its own. -/
def MidHead (w wX : World) (b7 n3 n b8 : Nat) (c7 c8 : Array Value) (vs vq ve vp : Value) (E P ge gp : List ByteArray) : Prop :=
  Below w.heap.size w wX ∧ w.heap.size ≤ b7 ∧ b7 < n3 ∧ n3 ≤ n ∧ n ≤ b8 ∧ b8 < wX.heap.size ∧
  wX.heap[b7]? = some (.cells c7 36 (0, 0)) ∧ wX.heap[b8]? = some (.cells c8 36 (0, 0)) ∧
  Texts wX b7 vs E ∧ Texts wX b7 vq P ∧ OwnT wX n3 ve ge ∧ OwnT wX n vp gp ∧ (∀ g, ve.ownBlock = some g → g < n) ∧ (∀ g, vp.ownBlock = some g → g < b8)
theorem MidHead.below {w wX wY : World} {b7 n3 n b8 : Nat} {c7 c8 : Array Value} {vs vq ve vp : Value} {E P ge gp : List ByteArray} (h : MidHead w wX b7 n3 n b8 c7 c8 vs vq ve vp E P ge gp) (hb : Below wX.heap.size wX wY) : MidHead w wY b7 n3 n b8 c7 c8 vs vq ve vp E P ge gp := by
  obtain ⟨h1, h2, h3, h4, h5, h6, h7, h8, h9, h10, h11, h12, h13, h14⟩ := h
  exact ⟨h1.trans (hb.mono h1.size), h2, h3, h4, h5, Nat.lt_of_lt_of_le h6 hb.size, (hb.block _ (by omega)).trans h7, (hb.block _ h6).trans h8, h9.below (hb.mono (by omega)), h10.below (hb.mono (by omega)), h11.below hb (Nat.le_refl _), h12.below hb (Nat.le_refl _), h13, h14⟩
theorem MidHead.mark {w wX wY : World} {b7 n3 n b8 : Nat} {c7 c8 : Array Value} {vs vq ve vp : Value} {E P ge gp ge' gp' : List ByteArray} (h : MidHead w wX b7 n3 n b8 c7 c8 vs vq ve vp E P ge gp) (hs : Spared wX wY ve vp) (ho1 : OwnT wY n3 ve ge') (ho2 : OwnT wY n vp gp') : MidHead w wY b7 n3 n b8 c7 c8 vs vq ve vp E P ge' gp' := by
  obtain ⟨h1, h2, h3, h4, h5, h6, h7, h8, h9, h10, h11, h12, h13, h14⟩ := h
  have hv : ∀ g, ve.ownBlock = some g → n3 ≤ g := fun g hg => (World.ownsRow.lt h11 g hg).1
  have hu : ∀ g, vp.ownBlock = some g → n3 ≤ g := fun g hg => Nat.le_trans h4 (World.ownsRow.lt h12 g hg).1
  have hb := hs.below n3 (by omega) hv hu
  refine ⟨h1.trans (hb.mono (by omega)), h2, h3, h4, h5, Nat.lt_of_lt_of_le h6 hs.2.2.2.1, (hb.block _ h3).trans h7, ?_, h9.below (hb.mono (by omega)), h10.below (hb.mono (by omega)), ho1, ho2, h13, h14⟩
  exact (hs.2.2.2.2 b8 h6 (fun e => by have := h13 b8 e; omega) (fun e => by have := h14 b8 e; omega)).trans h8
theorem MidHead.grow {w wX wY : World} {b7 n3 n b8 bx : Nat} {c7 c8 : Array Value} {vs vq ve vp : Value} {E P ge gp : List ByteArray} (h : MidHead w wX b7 n3 n b8 c7 c8 vs vq ve vp E P ge gp) (hg : wX.grownBy wY (some bx)) (h0 : b7 < bx) (h1' : bx < n3) : MidHead w wY b7 n3 n b8 c7 c8 vs vq ve vp E P ge gp := by
  obtain ⟨h1, h2, h3, h4, h5, h6, h7, h8, h9, h10, h11, h12, h13, h14⟩ := h
  have hb : Below bx wX wY := (Below.refl bx wX).grown hg (by omega) (fun k e => by simp at e; omega)
  refine ⟨h1.trans (hb.mono (by omega)), h2, h3, h4, h5, Nat.lt_of_lt_of_le h6 hb.size, (hb.block _ h0).trans h7, (hg.block b8 h6 (by simp; omega)).trans h8, h9.below (hb.mono (by omega)), h10.below (hb.mono (by omega)), h11.grownOther hg (fun g e => ?_), h12.grownOther hg (fun g e => ?_), h13, h14⟩
  · have := (World.ownsRow.lt h11 g e).1
    simp
    omega
  · have := (World.ownsRow.lt h12 g e).1
    simp
    omega
theorem MidHead.spec {w wX : World} {b7 n3 n b8 : Nat} {c7 c8 : Array Value} {vs vq ve vp : Value} {E P ge gp : List ByteArray} (h : MidHead w wX b7 n3 n b8 c7 c8 vs vq ve vp E P ge gp) : Texts wX wX.heap.size vs E ∧ Texts wX wX.heap.size vq P := by
  obtain ⟨h1, h2, h3, h4, h5, h6, h7, h8, h9, h10, _⟩ := h
  exact ⟨h9.up (by omega), h10.up (by omega)⟩
theorem MidHead.owns {w wX : World} {b7 n3 n b8 : Nat} {c7 c8 : Array Value} {vs vq ve vp : Value} {E P ge gp : List ByteArray} (h : MidHead w wX b7 n3 n b8 c7 c8 vs vq ve vp E P ge gp) : OwnT wX n3 ve ge ∧ OwnT wX n vp gp ∧ (∀ g, ve.ownBlock = some g → g < n) := ⟨h.2.2.2.2.2.2.2.2.2.2.1, h.2.2.2.2.2.2.2.2.2.2.2.1, h.2.2.2.2.2.2.2.2.2.2.2.2.1⟩
theorem MidHead.b7 {w wX : World} {b7 n3 n b8 : Nat} {a b c d e f g : Value} {c8 : Array Value} {vs vq ve vp : Value} {E P ge gp : List ByteArray} (h : MidHead w wX b7 n3 n b8 #[a, b, c, d, e, f, g] c8 vs vq ve vp E P ge gp) :
    wX.cell? ⟨b7, 0, none⟩ = some a ∧ wX.cell? ⟨b7, 1, none⟩ = some b ∧ wX.cell? ⟨b7, 2, none⟩ = some c ∧ wX.cell? ⟨b7, 3, none⟩ = some d ∧ wX.cell? ⟨b7, 4, none⟩ = some e ∧ wX.cell? ⟨b7, 5, none⟩ = some f ∧ wX.cell? ⟨b7, 6, none⟩ = some g := by
  obtain ⟨h1, h2, h3, h4, h5, h6, h7, h8, _⟩ := h
  exact (seven_cells (Below.refl wX.heap.size wX) (by omega) h7).1
theorem MidHead.b8 {w wX : World} {b7 n3 n b8 : Nat} {a b c d e f g : Value} {c7 : Array Value} {vs vq ve vp : Value} {E P ge gp : List ByteArray} (h : MidHead w wX b7 n3 n b8 c7 #[a, b, c, d, e, f, g] vs vq ve vp E P ge gp) :
    wX.cell? ⟨b8, 0, none⟩ = some a ∧ wX.cell? ⟨b8, 1, none⟩ = some b ∧ wX.cell? ⟨b8, 2, none⟩ = some c ∧ wX.cell? ⟨b8, 3, none⟩ = some d ∧ wX.cell? ⟨b8, 4, none⟩ = some e ∧ wX.cell? ⟨b8, 5, none⟩ = some f ∧ wX.cell? ⟨b8, 6, none⟩ = some g := by
  obtain ⟨h1, h2, h3, h4, h5, h6, h7, h8, _⟩ := h
  exact (seven_cells (Below.refl wX.heap.size wX) h6 h8).1

set_option maxHeartbeats 8000000 in
set_option maxRecDepth 10000 in
theorem lawHeadSign_any (s : ByteArray) (k : Int) (log : ByteArray) (v : Value) (l : List ByteArray) (t : Int) (w : World) (h : TextsArg w v l) (hs : s.size ≤ maxLen) (hlog : log.size ≤ maxLen) (ht : (Lit.int .i64 t).wf = true) (hK : Keys w) :
    Calls Tryd.prog 4 #[.string s, .int .i64 k, .string log, v, .int .i64 t] w fun e w' => e = .returned (.bool true) ∧ Below w.heap.size w w' := by
  unfold maxLen at hs hlog
  have ht' := int_bd ht
  obtain ⟨htx, hl, hz⟩ := h
  by_cases hs1 : 1048576 < (s.size : Int)
  · clear htx hz
    go_enter Tryd.func4, Tryd.ntmps4
    go_wp2
    go_ret
    exact ⟨rfl, Below.refl _ _⟩
  by_cases hl1 : 1048576 < (log.size : Int)
  · clear htx hz
    go_enter Tryd.func4, Tryd.ntmps4
    go_wp2
    go_ret
    exact ⟨rfl, Below.refl _ _⟩
  have E0 : Hid (Calls Tryd.prog 13 #[v, .int .i64 1048576] w fun e w' => SzAns l e ∧ w' = w) := sz_any v l 1048576 w _ htx hl hz (by omega) (by omega)
  have HT : Hid (Texts w w.heap.size v l) := htx
  have HK : Hid (Keys w) := hK
  have HSL : Hid (s.size ≤ 1048576 ∧ log.size ≤ 1048576 ∧ -9223372036854775808 ≤ t ∧ t ≤ 9223372036854775807) := ⟨by omega, by omega, ht'⟩
  clear htx hl hz hK hs hlog ht ht'
  go_enter Tryd.func4, Tryd.ntmps4
  go_wp2_with fail
  refine E0.out.mono ?_
  rintro e w1 ⟨⟨r, rfl, hr0, hr1, hr⟩, h0⟩
  obtain rfl : w = w1 := h0.symm
  clear E0
  by_cases hneg : r < 0
  · clear hr
    go_wp2
    go_ret
    exact ⟨rfl, Below.refl _ _⟩
  have HL : Hid (l.length ≤ 1048576) := by
    rcases hr with h | h
    · omega
    · exact h.1
  clear hr
  have ET : Hid (∀ w', Below w.heap.size w w' → Calls Tryd.prog 15 #[v] w' fun e w'' => ∃ v', e = .returned v' ∧ OwnS w'' w'.heap.size v' l ∧ Below w'.heap.size w' w'') := fun w' hb => toTexts_any v l w' ((HT.out.below hb).up hb.size) HL.out
  have ES : Hid (∀ x w', Texts w' w'.heap.size x l → Calls Tryd.prog 14 #[.string s, .int .i64 k, .string log, x, .int .i64 t] w' fun e w'' => HeadTold w' (hsLog s k log l t) (hsSize s k log l t) (hsRoot s k log l t) (hsTime s k log l t) (hsKey s k log l t) (hsEnds s k log l t) (hsPath s k log l t) e w'') := fun x w' hx => specHeadSign_any s k log x l t w' hx HL.out HSL.out.1 HSL.out.2.1 HSL.out.2.2
  have EI : Hid (∀ x w', Below w.heap.size w w' → Texts w' w'.heap.size x l → Calls Tryd.prog 16 #[.string s, .int .i64 k, .string log, x, .int .i64 t] w' fun e w'' => HeadAns w' (hsLog s k log l t) (hsSize s k log l t) (hsRoot s k log l t) (hsTime s k log l t) (hsKey s k log l t) (hsEnds s k log l t) (hsPath s k log l t) e w'') := fun x w' hb hx => implHeadSign_any s k log x l t w' hx HL.out HSL.out.1 HSL.out.2.1 HSL.out.2.2 (HK.out.below hb HK.out.lt)
  have hE := hsEnds_len s k log l t
  have hP := hsPath_len s k log l t
  generalize hsLog s k log l t = L at *
  generalize hsSize s k log l t = Z at *
  generalize hsRoot s k log l t = R at *
  generalize hsTime s k log l t = T at *
  generalize hsKey s k log l t = K at *
  generalize hsEnds s k log l t = E at *
  generalize hsPath s k log l t = P at *
  have EH : Hid (∀ (ve vp ue up : Value) (w : World), Texts w w.heap.size ve E → Texts w w.heap.size vp P → Texts w w.heap.size ue E → Texts w w.heap.size up P → Calls Tryd.prog 17 #[.agg #[.string L, .int .i64 Z, .string R, .int .i64 T, .int .i64 K, ve, vp], .agg #[.string L, .int .i64 Z, .string R, .int .i64 T, .int .i64 K, ue, up]] w fun e w' => e = .returned (.bool true) ∧ Below w.heap.size w w') := fun ve vp ue up w h1 h2 h3 h4 => eqHead_any L R Z T K ve vp ue up E P w h1 h2 h3 h4 (by omega) (by omega)
  have EQ : Hid (∀ a b m w', Texts w' w'.heap.size a m → Texts w' w'.heap.size b m → m.length ≤ 1048577 → Calls Tryd.prog 18 #[a, b] w' fun e w'' => e = .returned (.bool true) ∧ Below w'.heap.size w' w'') := fun a b m w' h1 h2 h3 => eqTexts_any a b m w' w'.heap.size h1 h2 h3
  have HEP : Hid (E.length ≤ 6 ∧ P.length ≤ 5) := ⟨hE, hP⟩
  clear hE hP HSL
  go_wp2_with fail
  refine (ET.out _ (Below.refl _ _)).mono ?_
  rintro e w2 ⟨x1, rfl, hx1, hb2⟩
  have H2 : Hid (Below w.heap.size w w2 ∧ Texts w2 w2.heap.size x1 l) := ⟨hb2, hx1.texts hx1.lt⟩
  clear hx1 hb2
  go_wp2_with fail
  refine (ES.out _ _ H2.out.2).mono ?_
  rintro e w3 ⟨vs, vq, rfl, ht1, ht2, hb3⟩
  obtain ⟨a1, c1, rfl, _⟩ := id ht1
  obtain ⟨b1, d1, rfl, _⟩ := id ht2
  obtain ⟨W3, hW3⟩ : ∃ W, W = w3.alloc (.cells #[.string L, .int .i64 Z, .string R, .int .i64 T, .int .i64 K, .slice a1 E.length c1, .slice b1 P.length d1] 36) := ⟨_, rfl⟩
  have hal : Below w3.heap.size w3 W3 := by rw [hW3]; exact (Below.refl _ _).alloc (Nat.le_refl _) _
  have hb03 := H2.out.1.trans (hb3.mono H2.out.1.size)
  have H3 : Hid (Below w.heap.size w W3 ∧ Texts W3 w3.heap.size (.slice a1 E.length c1) E ∧ Texts W3 w3.heap.size (.slice b1 P.length d1) P ∧ W3.heap[w3.heap.size]? = some (.cells #[.string L, .int .i64 Z, .string R, .int .i64 T, .int .i64 K, .slice a1 E.length c1, .slice b1 P.length d1] 36 (0, 0)) ∧ w.heap.size ≤ w3.heap.size ∧ w3.heap.size < W3.heap.size) := ⟨hb03.trans (hal.mono hb03.size), ht1.below hal, ht2.below hal, by rw [hW3]; exact heap_alloc_new w3 _, hb03.size, by rw [hW3]; simp⟩
  have HW3 : Hid (W3 = w3.alloc (.cells #[.string L, .int .i64 Z, .string R, .int .i64 T, .int .i64 K, .slice a1 E.length c1, .slice b1 P.length d1] 36)) := hW3
  clear ht1 ht2 hb3 hal hW3 hb03 H2 ES
  go_wp2_with fail
  rw [← HW3.out]
  clear HW3
  generalize hb7 : w3.heap.size = b7 at *
  clear hb7
  refine (ET.out _ H3.out.1).mono ?_
  rintro e w4 ⟨x3, rfl, hx3, hb4⟩
  have hx3o := hx3.own HL.out
  have H4 : Hid (Below w.heap.size w w4 ∧ Texts w4 b7 (.slice a1 E.length c1) E ∧ Texts w4 b7 (.slice b1 P.length d1) P ∧ w4.heap[b7]? = some (.cells #[.string L, .int .i64 Z, .string R, .int .i64 T, .int .i64 K, .slice a1 E.length c1, .slice b1 P.length d1] 36 (0, 0)) ∧ w.heap.size ≤ b7 ∧ b7 < W3.heap.size ∧ W3.heap.size < w4.heap.size ∧ OwnT w4 W3.heap.size x3 l ∧ x3.ownBlock = some W3.heap.size) := ⟨H3.out.1.trans (hb4.mono H3.out.1.size), H3.out.2.1.below (hb4.mono (Nat.le_of_lt H3.out.2.2.2.2.2)), H3.out.2.2.1.below (hb4.mono (Nat.le_of_lt H3.out.2.2.2.2.2)), (hb4.block _ H3.out.2.2.2.2.2).trans H3.out.2.2.2.1, H3.out.2.2.2.2.1, H3.out.2.2.2.2.2, hx3.lt, hx3o.1, hx3o.2⟩
  clear hx3 hx3o hb4 H3
  generalize W3.heap.size = bx at *
  go_wp2_with fail
  refine (EI.out _ _ H4.out.1 H4.out.2.2.2.2.2.2.2.1.texts).mono ?_
  rintro e w5 ⟨ve, vp, n, rfl, ho1, ho2, hlt, hn1, hn2, hb5⟩
  obtain ⟨a2, c2, rfl⟩ := ho1.len
  obtain ⟨b2, d2, rfl⟩ := ho2.len
  obtain ⟨W5, hW5⟩ : ∃ W, W = w5.alloc (.cells #[.string L, .int .i64 Z, .string R, .int .i64 T, .int .i64 K, .slice a2 E.length c2, .slice b2 P.length d2] 36) := ⟨_, rfl⟩
  have hal : Below w5.heap.size w5 W5 := by rw [hW5]; exact (Below.refl _ _).alloc (Nat.le_refl _) _
  have hb45 : Below w4.heap.size w4 W5 := hb5.trans (hal.mono hb5.size)
  have q45 : b7 < w4.heap.size := Nat.lt_trans H4.out.2.2.2.2.2.1 H4.out.2.2.2.2.2.2.1
  have M5 : Hid (MidHead w W5 b7 w4.heap.size n w5.heap.size #[.string L, .int .i64 Z, .string R, .int .i64 T, .int .i64 K, .slice a1 E.length c1, .slice b1 P.length d1] #[.string L, .int .i64 Z, .string R, .int .i64 T, .int .i64 K, .slice a2 E.length c2, .slice b2 P.length d2] (.slice a1 E.length c1) (.slice b1 P.length d1) (.slice a2 E.length c2) (.slice b2 P.length d2) E P E P ∧ OwnT W5 bx x3 l ∧ x3.ownBlock = some bx ∧ b7 < bx ∧ bx < w4.heap.size) := by
    refine ⟨⟨H4.out.1.trans (hb45.mono H4.out.1.size), H4.out.2.2.2.2.1, q45, hn1, hn2, ?_, (hb45.block _ q45).trans H4.out.2.2.2.1, ?_, H4.out.2.1.below (hb45.mono (Nat.le_of_lt q45)), H4.out.2.2.1.below (hb45.mono (Nat.le_of_lt q45)), ho1.below hal (Nat.le_refl _), ho2.below hal (Nat.le_refl _), hlt, fun g hg => (World.ownsRow.lt ho2 g hg).2⟩, H4.out.2.2.2.2.2.2.2.1.below hb45 (Nat.le_refl _), H4.out.2.2.2.2.2.2.2.2, H4.out.2.2.2.2.2.1, H4.out.2.2.2.2.2.2.1⟩
    · rw [hW5]; simp
    · rw [hW5]; exact heap_alloc_new w5 _
  have HW5 : Hid (W5 = w5.alloc (.cells #[.string L, .int .i64 Z, .string R, .int .i64 T, .int .i64 K, .slice a2 E.length c2, .slice b2 P.length d2] 36)) := hW5
  obtain ⟨x0, x1', x2, x3', x4, x5, x6⟩ := (seven_cells hb5 q45 H4.out.2.2.2.1).1
  have hlt5 : b7 < w5.heap.size := Nat.lt_of_lt_of_le q45 hb5.size
  clear ho1 ho2 hlt hn1 hn2 hb5 hal hb45 hW5 H4 q45
  generalize w4.heap.size = n3 at *
  go_wp2_with fail
  rw [← HW5.out]
  clear HW5 x0 x1' x2 x3' x4 x5 x6 hlt5
  generalize w5.heap.size = b8 at *
  refine (EH.out _ _ _ _ _ M5.out.1.owns.1.texts M5.out.1.owns.2.1.texts M5.out.1.spec.1 M5.out.1.spec.2).mono ?_
  rintro e w6 ⟨rfl, hb6⟩
  have M6 : Hid (MidHead w w6 b7 n3 n b8 #[.string L, .int .i64 Z, .string R, .int .i64 T, .int .i64 K, .slice a1 E.length c1, .slice b1 P.length d1] #[.string L, .int .i64 Z, .string R, .int .i64 T, .int .i64 K, .slice a2 E.length c2, .slice b2 P.length d2] (.slice a1 E.length c1) (.slice b1 P.length d1) (.slice a2 E.length c2) (.slice b2 P.length d2) E P E P ∧ OwnT w6 bx x3 l ∧ x3.ownBlock = some bx ∧ b7 < bx ∧ bx < n3) := ⟨M5.out.1.below hb6, M5.out.2.1.below hb6 (Nat.le_refl _), M5.out.2.2⟩
  clear hb6 M5
  go_wp2_with fail
  refine (ET.out _ M6.out.1.1).mono ?_
  rintro e w7 ⟨x7, rfl, hx7, hb7⟩
  have M7 : Hid ((MidHead w w7 b7 n3 n b8 #[.string L, .int .i64 Z, .string R, .int .i64 T, .int .i64 K, .slice a1 E.length c1, .slice b1 P.length d1] #[.string L, .int .i64 Z, .string R, .int .i64 T, .int .i64 K, .slice a2 E.length c2, .slice b2 P.length d2] (.slice a1 E.length c1) (.slice b1 P.length d1) (.slice a2 E.length c2) (.slice b2 P.length d2) E P E P ∧ OwnT w7 bx x3 l ∧ x3.ownBlock = some bx ∧ b7 < bx ∧ bx < n3) ∧ Texts w7 w7.heap.size x7 l) := ⟨⟨M6.out.1.below hb7, M6.out.2.1.below hb7 (Nat.le_refl _), M6.out.2.2⟩, hx7.texts hx7.lt⟩
  clear hb7 hx7 M6
  go_wp2_with fail
  refine (EQ.out _ _ l _ M7.out.1.2.1.texts M7.out.2 (Nat.le_succ_of_le HL.out)).mono ?_
  rintro e w8 ⟨rfl, hb8⟩
  have M8 : Hid (MidHead w w8 b7 n3 n b8 #[.string L, .int .i64 Z, .string R, .int .i64 T, .int .i64 K, .slice a1 E.length c1, .slice b1 P.length d1] #[.string L, .int .i64 Z, .string R, .int .i64 T, .int .i64 K, .slice a2 E.length c2, .slice b2 P.length d2] (.slice a1 E.length c1) (.slice b1 P.length d1) (.slice a2 E.length c2) (.slice b2 P.length d2) E P E P ∧ OwnT w8 bx x3 l ∧ x3.ownBlock = some bx ∧ b7 < bx ∧ bx < n3) := ⟨M7.out.1.1.below hb8, M7.out.1.2.1.below hb8 (Nat.le_refl _), M7.out.1.2.2⟩
  clear hb8 M7
  have E8 : Hid (Calls Tryd.prog 19 #[x3, .int .i64 1] w8 fun e w' => e = .returned (.int .i64 ((1 + l.length : Nat) : Int)) ∧ OwnT w' bx x3 (marks 1 l.length) ∧ w8.grownBy w' x3.ownBlock) := mark_any x3 l 1 w8 bx M8.out.2.1 (by omega) (by omega) (by have := HL.out; omega)
  go_wp2_with fail
  refine E8.out.mono ?_
  rintro e w9 ⟨rfl, _, hg9⟩
  rw [M8.out.2.2.1] at hg9
  have M9 : Hid (MidHead w w9 b7 n3 n b8 #[.string L, .int .i64 Z, .string R, .int .i64 T, .int .i64 K, .slice a1 E.length c1, .slice b1 P.length d1] #[.string L, .int .i64 Z, .string R, .int .i64 T, .int .i64 K, .slice a2 E.length c2, .slice b2 P.length d2] (.slice a1 E.length c1) (.slice b1 P.length d1) (.slice a2 E.length c2) (.slice b2 P.length d2) E P E P) := M8.out.1.grow hg9 M8.out.2.2.2.1 M8.out.2.2.2.2
  clear hg9 M8 E8
  obtain ⟨p0, p1, p2, p3, p4, p5, p6⟩ := M9.out.b7
  obtain ⟨q0, q1, q2, q3, q4, q5, q6⟩ := M9.out.b8
  have hm9 : ¬ ((1 + l.length : Nat) : Int) < 0 := by omega
  obtain ⟨m9, hm9'⟩ : ∃ m : Int, m = ((1 + l.length : Nat) : Int) := ⟨_, rfl⟩
  rw [← hm9'] at hm9 ⊢
  clear hm9'
  go_wp2_with fail
  refine (EH.out _ _ _ _ _ M9.out.owns.1.texts M9.out.owns.2.1.texts M9.out.spec.1 M9.out.spec.2).mono ?_
  rintro e w10 ⟨rfl, hb10⟩
  have M10 : Hid (MidHead w w10 b7 n3 n b8 #[.string L, .int .i64 Z, .string R, .int .i64 T, .int .i64 K, .slice a1 E.length c1, .slice b1 P.length d1] #[.string L, .int .i64 Z, .string R, .int .i64 T, .int .i64 K, .slice a2 E.length c2, .slice b2 P.length d2] (.slice a1 E.length c1) (.slice b1 P.length d1) (.slice a2 E.length c2) (.slice b2 P.length d2) E P E P) := M9.out.below hb10
  clear hb10 M9 p0 p1 p2 p3 p4 p5 p6 q0 q1 q2 q3 q4 q5 q6
  obtain ⟨q0, q1, q2, q3, q4, q5, q6⟩ := M10.out.b8
  have E10 : Hid (Calls Tryd.prog 20 #[.agg #[.string L, .int .i64 Z, .string R, .int .i64 T, .int .i64 K, .slice a2 E.length c2, .slice b2 P.length d2], .int .i64 1] w10 fun e w' => e = .returned (.int .i64 ((1 + E.length + P.length : Nat) : Int)) ∧ OwnT w' n3 (.slice a2 E.length c2) (marks 1 E.length) ∧ OwnT w' n (.slice b2 P.length d2) (marks (1 + E.length) P.length) ∧ Spared w10 w' (.slice a2 E.length c2) (.slice b2 P.length d2)) := markHead_any L R Z T K _ _ E P 1 w10 n3 n M10.out.owns.1 M10.out.owns.2.1 M10.out.owns.2.2 (by omega) (by omega) (by have := HEP.out; omega) (by have := HEP.out; omega)
  go_wp2_with fail
  refine E10.out.mono ?_
  rintro e w11 ⟨rfl, ho1, ho2, hsp⟩
  have M11 : Hid (MidHead w w11 b7 n3 n b8 #[.string L, .int .i64 Z, .string R, .int .i64 T, .int .i64 K, .slice a1 E.length c1, .slice b1 P.length d1] #[.string L, .int .i64 Z, .string R, .int .i64 T, .int .i64 K, .slice a2 E.length c2, .slice b2 P.length d2] (.slice a1 E.length c1) (.slice b1 P.length d1) (.slice a2 E.length c2) (.slice b2 P.length d2) E P (marks 1 E.length) (marks (1 + E.length) P.length)) := M10.out.mark hsp ho1 ho2
  clear ho1 ho2 hsp M10 E10 q0 q1 q2 q3 q4 q5 q6
  obtain ⟨q0, q1, q2, q3, q4, q5, q6⟩ := M11.out.b8
  have EHD : Hid (∀ W, OwnT W n3 (.slice a2 E.length c2) (marks 1 E.length) → OwnT W n (.slice b2 P.length d2) (marks (1 + E.length) P.length) → Calls Tryd.prog 21 #[.agg #[.string L, .int .i64 Z, .string R, .int .i64 T, .int .i64 K, .slice a2 E.length c2, .slice b2 P.length d2], .int .i64 1] W fun e w' => e = .returned (.int .i64 ((1 + E.length + P.length : Nat) : Int)) ∧ Below W.heap.size W w') := fun W h1 h2 => heldHead_any L R Z T K _ _ E.length P.length 1 W n3 n h1 h2 (by omega) (by omega) (by have := HEP.out; omega) (by have := HEP.out; omega)
  have hm : ¬ ((1 + E.length + P.length : Nat) : Int) < 0 := by omega
  obtain ⟨mm, hmm⟩ : ∃ mm : Int, mm = ((1 + E.length + P.length : Nat) : Int) := ⟨_, rfl⟩
  rw [← hmm] at hm EHD
  rw [← hmm]
  clear hmm
  have hne : (mm != mm) = false := by simp
  go_wp2_with fail
  refine (EHD.out _ M11.out.owns.1 M11.out.owns.2.1).mono ?_
  rintro e w12 ⟨rfl, hb12⟩
  have M12 : Hid (MidHead w w12 b7 n3 n b8 #[.string L, .int .i64 Z, .string R, .int .i64 T, .int .i64 K, .slice a1 E.length c1, .slice b1 P.length d1] #[.string L, .int .i64 Z, .string R, .int .i64 T, .int .i64 K, .slice a2 E.length c2, .slice b2 P.length d2] (.slice a1 E.length c1) (.slice b1 P.length d1) (.slice a2 E.length c2) (.slice b2 P.length d2) E P (marks 1 E.length) (marks (1 + E.length) P.length)) := M11.out.below hb12
  clear hb12 M11 q0 q1 q2 q3 q4 q5 q6
  go_wp2_with fail
  refine (ET.out _ M12.out.1).mono ?_
  rintro e w13 ⟨x13, rfl, hx13, hb13⟩
  have M13 : Hid (MidHead w w13 b7 n3 n b8 #[.string L, .int .i64 Z, .string R, .int .i64 T, .int .i64 K, .slice a1 E.length c1, .slice b1 P.length d1] #[.string L, .int .i64 Z, .string R, .int .i64 T, .int .i64 K, .slice a2 E.length c2, .slice b2 P.length d2] (.slice a1 E.length c1) (.slice b1 P.length d1) (.slice a2 E.length c2) (.slice b2 P.length d2) E P (marks 1 E.length) (marks (1 + E.length) P.length) ∧ Texts w13 w13.heap.size x13 l) := ⟨M12.out.below hb13, hx13.texts hx13.lt⟩
  clear hb13 hx13 M12
  go_wp2_with fail
  refine (EI.out _ _ M13.out.1.1 M13.out.2).mono ?_
  rintro e w14 ⟨ue, up, n14, rfl, ho1, ho2, _, _, _, hb14⟩
  obtain ⟨a3, c3, rfl⟩ := ho1.len
  obtain ⟨b3, d3, rfl⟩ := ho2.len
  have M14 : Hid (MidHead w w14 b7 n3 n b8 #[.string L, .int .i64 Z, .string R, .int .i64 T, .int .i64 K, .slice a1 E.length c1, .slice b1 P.length d1] #[.string L, .int .i64 Z, .string R, .int .i64 T, .int .i64 K, .slice a2 E.length c2, .slice b2 P.length d2] (.slice a1 E.length c1) (.slice b1 P.length d1) (.slice a2 E.length c2) (.slice b2 P.length d2) E P (marks 1 E.length) (marks (1 + E.length) P.length)) := M13.out.1.below hb14
  obtain ⟨W14, hW14⟩ : ∃ W, W = w14.alloc (.cells #[.string L, .int .i64 Z, .string R, .int .i64 T, .int .i64 K, .slice a3 E.length c3, .slice b3 P.length d3] 36) := ⟨_, rfl⟩
  have hal : Below w14.heap.size w14 W14 := by rw [hW14]; exact (Below.refl _ _).alloc (Nat.le_refl _) _
  have N14 : Hid (MidHead w W14 b7 n3 n b8 #[.string L, .int .i64 Z, .string R, .int .i64 T, .int .i64 K, .slice a1 E.length c1, .slice b1 P.length d1] #[.string L, .int .i64 Z, .string R, .int .i64 T, .int .i64 K, .slice a2 E.length c2, .slice b2 P.length d2] (.slice a1 E.length c1) (.slice b1 P.length d1) (.slice a2 E.length c2) (.slice b2 P.length d2) E P (marks 1 E.length) (marks (1 + E.length) P.length) ∧ Texts W14 W14.heap.size (.slice a3 E.length c3) E ∧ Texts W14 W14.heap.size (.slice b3 P.length d3) P) := ⟨M14.out.below hal, (ho1.texts.below hal).up hal.size, (ho2.texts.below hal).up hal.size⟩
  have HW14 : Hid (W14 = w14.alloc (.cells #[.string L, .int .i64 Z, .string R, .int .i64 T, .int .i64 K, .slice a3 E.length c3, .slice b3 P.length d3] 36)) := hW14
  obtain ⟨p0, p1, p2, p3, p4, p5, p6⟩ := M14.out.b7
  have hlt14 : b7 < w14.heap.size := block_lt_of_cell p0
  clear ho1 ho2 hb14 hal hW14 M13 M14
  go_wp2_with fail
  rw [← HW14.out]
  clear HW14 p0 p1 p2 p3 p4 p5 p6 hlt14
  refine (EH.out _ _ _ _ _ N14.out.2.1 N14.out.2.2 N14.out.1.spec.1 N14.out.1.spec.2).mono ?_
  rintro e w15 ⟨rfl, hb15⟩
  have M15 : Hid (MidHead w w15 b7 n3 n b8 #[.string L, .int .i64 Z, .string R, .int .i64 T, .int .i64 K, .slice a1 E.length c1, .slice b1 P.length d1] #[.string L, .int .i64 Z, .string R, .int .i64 T, .int .i64 K, .slice a2 E.length c2, .slice b2 P.length d2] (.slice a1 E.length c1) (.slice b1 P.length d1) (.slice a2 E.length c2) (.slice b2 P.length d2) E P (marks 1 E.length) (marks (1 + E.length) P.length)) := N14.out.1.below hb15
  clear hb15 N14
  obtain ⟨q0, q1, q2, q3, q4, q5, q6⟩ := M15.out.b8
  go_wp2_with fail
  refine (EHD.out _ M15.out.owns.1 M15.out.owns.2.1).mono ?_
  rintro e w16 ⟨rfl, hb16⟩
  have M16 : Hid (Below w.heap.size w w16) := (M15.out.below hb16).1
  clear hb16 M15 q0 q1 q2 q3 q4 q5 q6
  go_wp2
  go_ret
  exact ⟨rfl, M16.out⟩
end Go.Proofs.YtbfejeeebfknjaaDoor
