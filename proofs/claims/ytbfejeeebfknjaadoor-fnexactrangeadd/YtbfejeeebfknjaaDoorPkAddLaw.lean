/-
  The walk of the exact law of RangeAdd. Condition: the program's variable holds the rounds' numbers, the library's its table.
-/
import Derived.Test.YtbfejeeebfknjaaDoorPkSpecAdd
import Derived.Test.YtbfejeeebfknjaaDoorPkImplAdd
import Derived.Test.YtbfejeeebfknjaaDoorPkMarkRange
import Derived.Deep.RegionWith
import Derived.Deep.DeepCutAuto
namespace Go.Proofs.YtbfejeeebfknjaaDoor
open Go.RowKit Go.Lib
set_option linter.unusedVariables false
set_option linter.unusedSimpArgs false

theorem addR_len (rs : List ByteArray) : ∀ (n : Nat) (h : ByteArray), (addR nodeB n rs h).length ≤ rs.length + 1 := by
  induction rs with
  | nil => intro n h; simp [addR]
  | cons x r ih =>
    intro n h
    by_cases c : n % 2 = 1
    · rw [addR_odd nodeB x r h c]
      have := ih (n / 2) (nodeB x h)
      simp only [List.length_cons]
      omega
    · rw [addR_even nodeB _ h c]
      simp
theorem addNodes_len (size : Int) (l : List ByteArray) (t : ByteArray) : (addNodes size l t).length ≤ l.length + 1 := by
  unfold addNodes
  split
  · simp
  · split
    · unfold addB
      have := addR_len l.reverse size.toNat (leafB t)
      rw [List.length_reverse] at this
      rw [List.length_reverse]
      exact this
    · omega

set_option maxHeartbeats 4000000 in
set_option maxRecDepth 10000 in
theorem lawRangeAdd_any (size : Int) (v : Value) (l : List ByteArray) (t : ByteArray) (w : World) (h : TextsArg w v l) (htm : t.size ≤ maxLen) (hK : Keys w) (hTb : TabAt w) :
    Calls Tryd.prog 3 #[.agg #[.int .i64 size, v], .string t] w fun e w' => e = .returned (.bool true) ∧ Below w.heap.size w w' := by
  unfold maxLen at htm
  obtain ⟨ht, hl, hz⟩ := h
  have HT : Hid (Texts w w.heap.size v l) := ht
  have HK : Hid (Keys w ∧ TabAt w) := ⟨hK, hTb⟩
  obtain ⟨W, hW⟩ : ∃ W, W = w.alloc (.cells #[.int .i64 size, v] 24) := ⟨_, rfl⟩
  have HX : Hid (W.heap[w.heap.size]? = some (.cells #[.int .i64 size, v] 24 (0, 0)) ∧ Below w.heap.size w W ∧ w.heap.size < W.heap.size) := by
    subst hW
    exact ⟨heap_alloc_new w _, (Below.refl _ _).alloc (Nat.le_refl _) _, by simp⟩
  have E0 : Hid (Calls Tryd.prog 6 #[.agg #[.int .i64 size, v], .int .i64 1048576] W fun e w' => SzAns l e ∧ Below W.heap.size W w') := szRange_any size v l W ((ht.below HX.out.2.1).up HX.out.2.1.size) hl hz
  have HWE : Hid (W = w.alloc (.cells #[.int .i64 size, v] 24)) := hW
  obtain ⟨a, cap, rfl, hx, hy⟩ := id ht
  clear hx hy hW ht hl hz hK hTb
  obtain ⟨LL, hLL⟩ : ∃ LL, LL = l.length := ⟨_, rfl⟩
  have HLL : Hid (LL = l.length) := hLL
  rw [← hLL] at HX HT E0 HWE ⊢
  clear hLL
  by_cases ht1 : 1048576 < (t.size : Int)
  · go_enter Tryd.func3, Tryd.ntmps3
    go_wp2
    go_ret
    rw [← HWE.out]
    exact ⟨rfl, HX.out.2.1⟩
  go_enter Tryd.func3, Tryd.ntmps3
  go_wp2_with fail
  rw [← HWE.out]
  clear HWE
  refine E0.out.mono ?_
  rintro e w1 ⟨⟨r, rfl, hr0, hr1, hr⟩, hb1⟩
  have HX : Hid (w1.heap[w.heap.size]? = some (.cells #[.int .i64 size, .slice a LL cap] 24 (0, 0)) ∧ Below w.heap.size w w1 ∧ w.heap.size < w1.heap.size) := ⟨(hb1.block _ HX.out.2.2).trans HX.out.1, HX.out.2.1.trans (hb1.mono HX.out.2.1.size), Nat.lt_of_lt_of_le HX.out.2.2 hb1.size⟩
  clear E0 hb1
  obtain ⟨⟨c0, c1⟩, _, _⟩ := two_cells' (Below.refl w1.heap.size w1) HX.out.2.2 HX.out.1
  by_cases hneg : r < 0
  · clear hr
    go_wp2
    go_ret
    exact ⟨rfl, HX.out.2.1⟩
  have HL : Hid (l.length ≤ 1048576 ∧ ∀ j (hj : j < l.length), l[j].size ≤ 1048576) := by
    rcases hr with h | h
    · omega
    · exact h
  clear hr
  have ET : Hid (∀ w', Below w.heap.size w w' → Calls Tryd.prog 8 #[.agg #[.int .i64 size, .slice a LL cap]] w' fun e w'' => ∃ v' g, e = .returned (.agg #[.int .i64 size, v']) ∧ OwnS w'' g v' l ∧ w'.heap.size ≤ g ∧ Below w'.heap.size w' w'') := fun w' hb => toRange_any size _ l w' ((HT.out.below hb).up hb.size) HL.out.1
  have ES : Hid (∀ x w', Texts w' w'.heap.size x l → Calls Tryd.prog 7 #[.agg #[.int .i64 size, x], .string t] w' fun e w'' => RangeAns w' (addSize size l t) (addNodes size l t) e w'') := fun x w' hx => specAdd_any size x l t w' hx HL.out.1
  have EI : Hid (∀ x w', Below w.heap.size w w' → Texts w' w'.heap.size x l → Calls Tryd.prog 9 #[.agg #[.int .i64 size, x], .string t] w' fun e w'' => RangeAns w' (addSize size l t) (addNodes size l t) e w'') := fun x w' hb hx => implAdd_any size x l t w' hx HL.out.1 HL.out.2 (by omega) (HK.out.1.below hb HK.out.1.lt) (HK.out.2.below hb HK.out.2.lt)
  have HP : Hid ((addNodes size l t).length ≤ 1048577) := by
    have := addNodes_len size l t
    have := HL.out.1
    show _ ≤ _
    omega
  have EQ : Hid (∀ (z : Int) a b m w', Texts w' w'.heap.size a m → Texts w' w'.heap.size b m → m.length ≤ 1048577 → Calls Tryd.prog 10 #[.agg #[.int .i64 z, a], .agg #[.int .i64 z, b]] w' fun e w'' => e = .returned (.bool true) ∧ Below w'.heap.size w' w'') := fun z a b m w' h1 h2 h3 => eqRange_any z a b m w' h1 h2 h3
  generalize addSize size l t = S at *
  generalize addNodes size l t = L at *
  go_wp2_with fail
  refine (ET.out _ HX.out.2.1).mono ?_
  rintro e w2 ⟨x1, g1, rfl, hx1, _, hb2⟩
  have H2 : Hid (Below w.heap.size w w2 ∧ Texts w2 w2.heap.size x1 l ∧ w2.heap[w.heap.size]? = some (.cells #[.int .i64 size, .slice a LL cap] 24 (0, 0))) := ⟨HX.out.2.1.trans (hb2.mono HX.out.2.1.size), hx1.texts hx1.lt, (hb2.block _ HX.out.2.2).trans HX.out.1⟩
  clear hx1 hb2 HX c0 c1
  go_wp2_with fail
  refine (ES.out _ _ H2.out.2.1).mono ?_
  rintro e w3 ⟨vs, rfl, ho3, hb3⟩
  obtain ⟨a3, p3, rfl⟩ := ho3.len
  obtain ⟨W3, hW3⟩ : ∃ W, W = w3.alloc (.cells #[.int .i64 S, .slice a3 L.length p3] 26) := ⟨_, rfl⟩
  have hlt2 : w.heap.size < w2.heap.size := (Array.getElem?_eq_some_iff.1 H2.out.2.2).1
  have H3 : Hid (Below w.heap.size w W3 ∧ W3.heap.size = w3.heap.size + 1 ∧ w.heap.size < w3.heap.size ∧ Texts W3 w3.heap.size (.slice a3 L.length p3) L ∧ W3.heap[w3.heap.size]? = some (.cells #[.int .i64 S, .slice a3 L.length p3] 26 (0, 0)) ∧ W3.heap[w.heap.size]? = some (.cells #[.int .i64 size, .slice a LL cap] 24 (0, 0))) := by
    have hal : Below w3.heap.size w3 W3 := by rw [hW3]; exact (Below.refl _ _).alloc (Nat.le_refl _) _
    have hb13 : Below w2.heap.size w2 W3 := hb3.trans (hal.mono hb3.size)
    refine ⟨H2.out.1.trans (hb13.mono H2.out.1.size), by rw [hW3]; simp, Nat.lt_of_lt_of_le hlt2 hb3.size, ho3.texts.below hal, by rw [hW3]; exact heap_alloc_new w3 _, (hb13.block _ hlt2).trans H2.out.2.2⟩
  have HW3 : Hid (W3 = w3.alloc (.cells #[.int .i64 S, .slice a3 L.length p3] 26)) := hW3
  obtain ⟨⟨c0, c1⟩, _, _⟩ := two_cells' (Below.refl W3.heap.size W3) (by have := H3.out.2.1; have := H3.out.2.2.1; omega) H3.out.2.2.2.2.2
  rw [hW3] at c0 c1
  clear ho3 hb3 hW3 H2 hlt2 ES
  go_wp2_with fail
  rw [← HW3.out]
  clear HW3 c0 c1
  refine (ET.out _ H3.out.1).mono ?_
  rintro e w4 ⟨v2, g2, rfl, ho2, hg2, hb4⟩
  obtain ⟨hown2, hob2⟩ := ho2.own HL.out.1
  have hlt2 := ho2.lt
  obtain ⟨hv2, _⟩ := id ho2
  subst hv2
  obtain ⟨W5, hW5⟩ : ∃ W5, W5 = w4.alloc (.cells #[.int .i64 size, .slice (some ⟨g2, 0, none⟩) l.length l.length] 26) := ⟨_, rfl⟩
  have H5 : Hid (Below w4.heap.size w4 W5 ∧ W5.heap.size = w4.heap.size + 1 ∧ W5.heap[w4.heap.size]? = some (.cells #[.int .i64 size, .slice (some ⟨g2, 0, none⟩) l.length l.length] 26 (0, 0)) ∧ Below W3.heap.size W3 w4 ∧ OwnT w4 g2 (.slice (some ⟨g2, 0, none⟩) l.length l.length) l ∧ W3.heap.size ≤ g2 ∧ g2 < w4.heap.size ∧ Below w.heap.size w W5) := by
    have hal : Below w4.heap.size w4 W5 := by rw [hW5]; exact (Below.refl _ _).alloc (Nat.le_refl _) _
    have hb35 : Below W3.heap.size W3 W5 := hb4.trans (hal.mono hb4.size)
    exact ⟨hal, by rw [hW5]; simp, by rw [hW5]; exact heap_alloc_new w4 _, hb4, hown2, hg2, hlt2, H3.out.1.trans (hb35.mono H3.out.1.size)⟩
  have HW5 : Hid (W5 = w4.alloc (.cells #[.int .i64 size, .slice (some ⟨g2, 0, none⟩) l.length l.length] 26)) := hW5
  clear ho2 hg2 hb4 hown2 hlt2 hW5 hob2
  go_wp2_with fail
  rw [← HW5.out]
  clear HW5
  refine (EI.out _ _ H5.out.2.2.2.2.2.2.2 ((H5.out.2.2.2.2.1.below H5.out.1 (Nat.le_refl _)).texts)).mono ?_
  rintro e w6 ⟨vg, rfl, ho6, hb6⟩
  obtain ⟨a6, p6, rfl⟩ := ho6.len
  obtain ⟨W7, hW7⟩ : ∃ W7, W7 = w6.alloc (.cells #[.int .i64 S, .slice a6 L.length p6] 26) := ⟨_, rfl⟩
  have M7 : Hid (MidR w W7 size S (.slice a LL cap) (.slice a3 L.length p3) (.slice (some ⟨g2, 0, none⟩) l.length l.length) (.slice a6 L.length p6) w3.heap.size w4.heap.size W5.heap.size w6.heap.size L l L) := by
    have hal : Below w6.heap.size w6 W7 := by rw [hW7]; exact (Below.refl _ _).alloc (Nat.le_refl _) _
    have hb57 : Below W5.heap.size W5 W7 := hb6.trans (hal.mono hb6.size)
    have hb47 : Below w4.heap.size w4 W7 := H5.out.1.trans (hb57.mono H5.out.1.size)
    have hb37 : Below W3.heap.size W3 W7 := H5.out.2.2.2.1.trans (hb47.mono H5.out.2.2.2.1.size)
    have z3 := H3.out.2.1
    have z3' := H3.out.2.2.1
    have z5 := H5.out.2.1
    have z4 := H5.out.2.2.2.1.size
    have z6 := hb6.size
    have z7 : W7.heap.size = w6.heap.size + 1 := by rw [hW7]; simp
    refine ⟨⟨(hb37.block _ (by omega)).trans H3.out.2.2.2.2.2, H3.out.1.trans (hb37.mono H3.out.1.size)⟩, ⟨z3', by omega, by omega, z6, by omega⟩, ⟨(hb37.block _ (by omega)).trans H3.out.2.2.2.2.1, (hb57.block _ (by omega)).trans H5.out.2.2.1, by rw [hW7]; exact heap_alloc_new w6 _⟩, H3.out.2.2.2.1.below (hb37.mono (by omega)), ⟨(H5.out.2.2.2.2.1.below hb47 (Nat.le_refl _)).lower (by have := H5.out.2.2.2.2.2.1; omega), ?_⟩, ho6.below hal (Nat.le_refl _), fun g hg => (World.ownsRow.lt ho6 g hg).2⟩
    intro g hg
    have e : g2 = g := by simpa [Value.ownBlock] using hg
    have := H5.out.2.2.2.2.2.2.1
    omega
  have HW7 : Hid (W7 = w6.alloc (.cells #[.int .i64 S, .slice a6 L.length p6] 26)) := hW7
  obtain ⟨⟨c0, c1⟩, ⟨d0, d1⟩, ⟨e0, e1⟩, f0, f1⟩ := M7.out.reads
  rw [hW7] at c0 c1 d0 d1 e0 e1 f0 f1
  clear ho6 hb6 hW7 H5 H3
  go_wp2_with fail
  rw [← HW7.out]
  clear HW7 c0 c1 d0 d1 e0 e1 f0 f1
  refine (EQ.out _ _ _ _ _ M7.out.answers.2.2 M7.out.answers.1 HP.out).mono ?_
  rintro e w8 ⟨rfl, hb8⟩
  generalize w3.heap.size = b6 at *
  generalize w4.heap.size = b7 at *
  generalize W5.heap.size = n8 at *
  generalize w6.heap.size = b8 at *
  have M8 : Hid (MidR w w8 size S (.slice a LL cap) (.slice a3 L.length p3) (.slice (some ⟨g2, 0, none⟩) l.length l.length) (.slice a6 L.length p6) b6 b7 n8 b8 L l L) := M7.out.below hb8
  clear M7 hb8
  go_wp2_with fail
  go_cut [38] (fun o wx => o = .bool false ∧ MidR w wx size S (.slice a LL cap) (.slice a3 L.length p3) (.slice (some ⟨g2, 0, none⟩) l.length l.length) (.slice a6 L.length p6) b6 b7 n8 b8 L l L)
  case first J K hJ hK =>
    obtain ⟨⟨c0, c1⟩, ⟨d0, d1⟩, ⟨e0, e1⟩, f0, f1⟩ := M8.out.reads
    have c0' : w8.drew.cell? ⟨w.heap.size, 0, none⟩ = some (.int .i64 size) := c0
    have c1' : w8.drew.cell? ⟨w.heap.size, 1, none⟩ = some (.slice a LL cap) := c1
    have e0' : w8.drew.cell? ⟨b7, 0, none⟩ = some (.int .i64 size) := e0
    have e1' : w8.drew.cell? ⟨b7, 1, none⟩ = some (.slice (some ⟨g2, 0, none⟩) l.length l.length) := e1
    go_region_with (first
      | (go_at_call 8; refine (ET.out _ ?_).mono ?_; exact below_drew' M8.out.1.2; rintro e w9 ⟨v3, g3, rfl, ho3, hg3, hb9⟩; have M9 : Hid (MidR w w9 size S (.slice a LL cap) (.slice a3 L.length p3) (.slice (some ⟨g2, 0, none⟩) l.length l.length) (.slice a6 L.length p6) b6 b7 n8 b8 L l L ∧ Texts w9 w9.heap.size v3 l) := ⟨M8.out.below (below_drew hb9), ho3.texts ho3.lt⟩; clear hb9 ho3 hg3; obtain ⟨_, _, ⟨e2, e3⟩, _, _⟩ := M9.out.1.reads)
      | (go_at_call 10; refine (EQ.out _ _ _ l _ ?_ ?_ ?_).mono ?_; exact M9.out.1.answers.2.1; exact M9.out.2; exact Nat.le_succ_of_le HL.out.1; rintro e w10 ⟨rfl, hb10⟩; have M10 : Hid (MidR w w10 size S (.slice a LL cap) (.slice a3 L.length p3) (.slice (some ⟨g2, 0, none⟩) l.length l.length) (.slice a6 L.length p6) b6 b7 n8 b8 L l L) := M9.out.1.below hb10; clear hb10))
    all_goals
      refine hK _ _ (Met.intro (hJ _ _ ?_))
      (repeat apply Exists.intro)
      refine ⟨?rel, rfl⟩
      case rel => exact ⟨rfl, M10.out⟩
  case rest =>
    obtain ⟨rfl, hmid⟩ := hcut
    have M11 : Hid (MidR w wc size S (.slice a LL cap) (.slice a3 L.length p3) (.slice (some ⟨g2, 0, none⟩) l.length l.length) (.slice a6 L.length p6) b6 b7 n8 b8 L l L) := hmid
    clear hmid M8
    obtain ⟨⟨c0, c1⟩, ⟨d0, d1⟩, ⟨e0, e1⟩, f0, f1⟩ := M11.out.reads
    have E11 : Hid (Calls Tryd.prog 11 #[.agg #[.int .i64 size, .slice (some ⟨g2, 0, none⟩) l.length l.length], .int .i64 1] wc fun e w' => e = .returned (.int .i64 ((1 + l.length : Nat) : Int)) ∧ OwnT w' (b6 + 1) (.slice (some ⟨g2, 0, none⟩) l.length l.length) (marks 1 l.length) ∧ wc.grownBy w' (Value.slice (some ⟨g2, 0, none⟩) l.length l.length).ownBlock) := markRange_any size _ l 1 wc (b6 + 1) M11.out.2.2.2.2.1.1 (by omega) (by omega) (by have := HL.out.1; omega)
    go_wp2_with fail
    refine E11.out.mono ?_
    rintro e w12 ⟨rfl, ho12, hg12⟩
    have M12 : Hid (MidR w w12 size S (.slice a LL cap) (.slice a3 L.length p3) (.slice (some ⟨g2, 0, none⟩) l.length l.length) (.slice a6 L.length p6) b6 b7 n8 b8 L (marks 1 l.length) L) := M11.out.markX hg12 ho12
    have hk12 : ¬ ((1 + l.length : Nat) : Int) < 0 := by omega
    have hk12B : decide (((1 + l.length : Nat) : Int) < 0) = false := decide_eq_false hk12
    clear ho12 hg12 M11 E11 c0 c1 d0 d1 e0 e1 f0 f1
    obtain ⟨⟨c0, c1⟩, ⟨d0, d1⟩, ⟨e0, e1⟩, f0, f1⟩ := M12.out.reads
    generalize ((1 + l.length : Nat) : Int) = kk at *
    go_wp2_with fail
    refine (EQ.out _ _ _ _ _ M12.out.answers.2.2 M12.out.answers.1 HP.out).mono ?_
    rintro e w13 ⟨rfl, hb13⟩
    have M13 : Hid (MidR w w13 size S (.slice a LL cap) (.slice a3 L.length p3) (.slice (some ⟨g2, 0, none⟩) l.length l.length) (.slice a6 L.length p6) b6 b7 n8 b8 L (marks 1 l.length) L) := M12.out.below hb13
    clear hb13 M12 c0 c1 d0 d1 e0 e1 f0 f1
    obtain ⟨⟨c0, c1⟩, ⟨d0, d1⟩, ⟨e0, e1⟩, f0, f1⟩ := M13.out.reads
    have E13 : Hid (Calls Tryd.prog 11 #[.agg #[.int .i64 S, .slice a6 L.length p6], .int .i64 1] w13 fun e w' => e = .returned (.int .i64 ((1 + L.length : Nat) : Int)) ∧ OwnT w' n8 (.slice a6 L.length p6) (marks 1 L.length) ∧ w13.grownBy w' (Value.slice a6 L.length p6).ownBlock) := markRange_any S _ L 1 w13 n8 M13.out.2.2.2.2.2.1 (by omega) (by omega) (by have := HP.out; omega)
    have EH : Hid (∀ w', OwnT w' n8 (.slice a6 L.length p6) (marks 1 L.length) → Calls Tryd.prog 12 #[.agg #[.int .i64 S, .slice a6 L.length p6], .int .i64 1] w' fun e w'' => e = .returned (.int .i64 ((1 + L.length : Nat) : Int)) ∧ Below w'.heap.size w' w'') := fun w' ho => heldRange_any S _ 1 L.length w' n8 ho (by omega) (by omega) (by have := HP.out; omega)
    have hm : ¬ ((1 + L.length : Nat) : Int) < 0 := by omega
    obtain ⟨mm, hmm⟩ : ∃ mm : Int, mm = ((1 + L.length : Nat) : Int) := ⟨_, rfl⟩
    rw [← hmm] at hm EH E13
    clear hmm
    have hne : (mm != mm) = false := by simp
    go_wp2_with fail
    refine E13.out.mono ?_
    rintro e w14 ⟨rfl, ho14, hg14⟩
    have M14 : Hid (MidR w w14 size S (.slice a LL cap) (.slice a3 L.length p3) (.slice (some ⟨g2, 0, none⟩) l.length l.length) (.slice a6 L.length p6) b6 b7 n8 b8 L (marks 1 l.length) (marks 1 L.length)) := M13.out.markG hg14 ho14
    clear ho14 hg14 M13 E13 c0 c1 d0 d1 e0 e1 f0 f1
    obtain ⟨⟨c0, c1⟩, ⟨d0, d1⟩, ⟨e0, e1⟩, f0, f1⟩ := M14.out.reads
    go_wp2_with fail
    refine (EH.out _ M14.out.2.2.2.2.2.1).mono ?_
    rintro e w15 ⟨rfl, hb15⟩
    have M15 : Hid (MidR w w15 size S (.slice a LL cap) (.slice a3 L.length p3) (.slice (some ⟨g2, 0, none⟩) l.length l.length) (.slice a6 L.length p6) b6 b7 n8 b8 L (marks 1 l.length) (marks 1 L.length)) := M14.out.below hb15
    clear hb15 M14 c0 c1 d0 d1 e0 e1 f0 f1
    obtain ⟨⟨c0, c1⟩, ⟨d0, d1⟩, ⟨e0, e1⟩, f0, f1⟩ := M15.out.reads
    go_wp2_with fail
    refine (ET.out _ M15.out.1.2).mono ?_
    rintro e w16 ⟨x4, g4, rfl, ho4, _, hb16⟩
    have M16 : Hid (MidR w w16 size S (.slice a LL cap) (.slice a3 L.length p3) (.slice (some ⟨g2, 0, none⟩) l.length l.length) (.slice a6 L.length p6) b6 b7 n8 b8 L (marks 1 l.length) (marks 1 L.length) ∧ Texts w16 w16.heap.size x4 l) := ⟨M15.out.below hb16, ho4.texts ho4.lt⟩
    clear hb16 ho4 M15 c0 c1 d0 d1 e0 e1 f0 f1
    go_wp2_with fail
    refine (EI.out _ _ M16.out.1.1.2 M16.out.2).mono ?_
    rintro e w17 ⟨vh, rfl, ho17, hb17⟩
    obtain ⟨a7, p7, rfl⟩ := ho17.len
    obtain ⟨W8, hW8⟩ : ∃ W8, W8 = w17.alloc (.cells #[.int .i64 S, .slice a7 L.length p7] 26) := ⟨_, rfl⟩
    have M18 : Hid (MidR w W8 size S (.slice a LL cap) (.slice a3 L.length p3) (.slice (some ⟨g2, 0, none⟩) l.length l.length) (.slice a6 L.length p6) b6 b7 n8 b8 L (marks 1 l.length) (marks 1 L.length) ∧ Texts W8 W8.heap.size (.slice a7 L.length p7) L) := by
      have hal : Below w17.heap.size w17 W8 := by rw [hW8]; exact (Below.refl _ _).alloc (Nat.le_refl _) _
      exact ⟨(M16.out.1.below hb17).below hal, (ho17.texts.below hal).up hal.size⟩
    have HW8 : Hid (W8 = w17.alloc (.cells #[.int .i64 S, .slice a7 L.length p7] 26)) := hW8
    obtain ⟨⟨c0, c1⟩, ⟨d0, d1⟩, ⟨e0, e1⟩, f0, f1⟩ := M18.out.1.reads
    rw [hW8] at c0 c1 d0 d1 e0 e1 f0 f1
    clear ho17 hb17 hW8 M16
    go_wp2_with fail
    rw [← HW8.out]
    clear HW8 c0 c1 d0 d1 e0 e1 f0 f1
    refine (EQ.out _ _ _ _ _ M18.out.2 M18.out.1.answers.1 HP.out).mono ?_
    rintro e w19 ⟨rfl, hb19⟩
    have M19 : Hid (MidR w w19 size S (.slice a LL cap) (.slice a3 L.length p3) (.slice (some ⟨g2, 0, none⟩) l.length l.length) (.slice a6 L.length p6) b6 b7 n8 b8 L (marks 1 l.length) (marks 1 L.length)) := M18.out.1.below hb19
    clear hb19 M18
    obtain ⟨⟨c0, c1⟩, ⟨d0, d1⟩, ⟨e0, e1⟩, f0, f1⟩ := M19.out.reads
    go_wp2_with fail
    refine (EH.out _ M19.out.2.2.2.2.2.1).mono ?_
    rintro e w20 ⟨rfl, hb20⟩
    have M20 : Hid (Below w.heap.size w w20) := (M19.out.below hb20).1.2
    clear hb20 M19
    go_wp2
    go_ret
    exact ⟨rfl, M20.out⟩
end Go.Proofs.YtbfejeeebfknjaaDoor
