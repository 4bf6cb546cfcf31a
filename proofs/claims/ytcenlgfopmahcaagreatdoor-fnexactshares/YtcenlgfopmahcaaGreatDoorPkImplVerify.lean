/-
  The program's Verify.
-/
import Derived.Test.YtcenlgfopmahcaaGreatDoorPkAgrees
import Derived.Test.YtcenlgfopmahcaaGreatDoorPkImplDigits
import Derived.Test.YtcenlgfopmahcaaGreatDoorPkTextRows
import Derived.Test.YtcenlgfopmahcaaGreatDoorPkImplNode
import Derived.Test.YtcenlgfopmahcaaGreatDoorPkImplTree
import Derived.Deep.RegionWith
namespace Go.Proofs.YtcenlgfopmahcaaGreatDoor
open Go.RowKit Go.Lib
set_option linter.unusedVariables false
set_option linter.unusedSimpArgs false

set_option maxHeartbeats 400000 in
theorem whatLeft_any (k d : Nat) (t : ByteArray) (w : World) (hk : k < 6) (hd : DigAt w d t) :
    Calls Tryz.prog 115 #[.int .i64 k, .pointer (some ⟨d, 0, none⟩)] w fun e w' => e = .returned (.int .i64 ((15 - digB t k : Nat) : Int)) ∧ w' = w := by
  have hc := hd.cell k hk
  have hle := digB_le t k
  have hV : Hid (15 - ((digB t k : Nat) : Int) = ((15 - digB t k : Nat) : Int)) := by show _ = _; omega
  obtain ⟨V, hVe⟩ : ∃ V : Int, V = ((15 - digB t k : Nat) : Int) := ⟨_, rfl⟩
  rw [← hVe] at hV ⊢
  generalize hD : digB t k = D at *
  have hkI : (k : Int) < 6 := by omega
  have hk0 : (0 : Int) ≤ (k : Int) := by omega
  have hD0 : (0 : Int) ≤ (D : Int) := by omega
  have hD1 : (D : Int) ≤ 15 := by omega
  clear hd hVe hD
  go_enter Tryz.func115, Tryz.ntmps115
  go_wp2
  go_ret
  exact ⟨congrArg (fun z => Ending.returned (.int .i64 z)) hV.out, rfl⟩

theorem one_text (w : World) (a : ByteArray) : Texts (w.alloc (.cells #[.string a] 9)) (w.heap.size + 1) (.slice (some ⟨w.heap.size, 0, none⟩) 1 1) [a] := by
  refine ⟨_, 1, rfl, .inr ⟨w.heap.size, 0, rfl, by omega, fun j hj => ?_⟩, by simp⟩
  have : j = 0 := by simp at hj; exact hj
  subst this
  rw [Nat.add_zero, cell_of_row _ _ 0 _ _ _ (heap_alloc_new w _)]
  rfl

set_option maxHeartbeats 2000000 in
set_option maxRecDepth 10000 in
theorem implVerify_any (root text : ByteArray) (k : Int) (ve vp : Value) (el pl : List ByteArray) (w : World) (h1 : Texts w w.heap.size ve el) (h2 : Texts w w.heap.size vp pl) (hl1 : el.length ≤ 1048576) (hl2 : pl.length ≤ 1048576) (hr : root.size ≤ 1048576) (ht : text.size ≤ 1048576) (hK : Keys w) :
    Calls Tryz.prog 97 #[.string root, .string text, .agg #[.int .i64 k, ve, vp]] w fun e w' => e = .returned (.bool (verB root text k el pl)) ∧ Below w.heap.size w w' := by
  obtain ⟨a1, c1, rfl, _⟩ := id h1
  obtain ⟨a2, c2, rfl, _⟩ := id h2
  obtain ⟨W, hW⟩ : ∃ W, W = w.alloc (.cells #[.int .i64 k, .slice a1 el.length c1, .slice a2 pl.length c2] 35) := ⟨_, rfl⟩
  have hbW : Below w.heap.size w W := by rw [hW]; exact (Below.refl _ _).alloc (Nat.le_refl _) _
  have hgW : W.heap[w.heap.size]? = some (.cells #[.int .i64 k, .slice a1 el.length c1, .slice a2 pl.length c2] 35 (0, 0)) := by rw [hW]; exact heap_alloc_new w _
  have hlW : w.heap.size < W.heap.size := (Array.getElem?_eq_some_iff.1 hgW).1
  have E0 : Hid (Calls Tryz.prog 113 #[.agg #[.int .i64 k, .slice a1 el.length c1, .slice a2 pl.length c2]] W fun e w' => e = .returned (.bool (sigRB k el pl)) ∧ Below W.heap.size W w') := implSigRight_any k _ _ el pl W ((h1.below hbW).up hbW.size) ((h2.below hbW).up hbW.size) hl1 hl2
  have H0 : Hid (Below w.heap.size w W ∧ W.heap[w.heap.size]? = some (.cells #[.int .i64 k, .slice a1 el.length c1, .slice a2 pl.length c2] 35 (0, 0)) ∧ Texts w w.heap.size (.slice a1 el.length c1) el ∧ Texts w w.heap.size (.slice a2 pl.length c2) pl ∧ w.heap.size < W.heap.size) := ⟨hbW, hgW, h1, h2, hlW⟩
  have HW : Hid (W = w.alloc (.cells #[.int .i64 k, .slice a1 el.length c1, .slice a2 pl.length c2] 35)) := hW
  have HK : Hid (Keys w) := hK
  clear h1 h2 hW hbW hgW hlW hK
  by_cases hs : sigRB k el pl = true
  · rw [hs] at E0
    have HY : Hid ((0 ≤ k ∧ k ≤ 3) ∧ el.length = 6 ∧ pl.length = 2 ∧ wideB el = true ∧ wideB pl = true) := sigRB_yes hs
    have ER : Hid (∀ w' : World, Calls Tryz.prog 60 #[.slice (some ⟨w'.heap.size, 0, none⟩) 1 1] (w'.alloc (.cells #[.string root] 9)) fun e w'' => e = .returned (.bool (decide ((root.size : Int) = 32))) ∧ w'' = w'.alloc (.cells #[.string root] 9)) := fun w' => by
      have := digests_any _ [root] _ _ (one_text w' root) (by simp)
      have e : wideB [root] = decide ((root.size : Int) = 32) := by unfold wideB; simp
      rw [e] at this
      exact this
    by_cases hr32 : (root.size : Int) = 32
    · rw [decide_eq_true hr32] at ER
      by_cases ht2 : (text.size : Int) ≤ 20000
      · rw [verB_rest hs hr32 ht2]
        have hk0 := HY.out.1.1
        have hk1 := HY.out.1.2
        have htI : ¬ 20000 < (text.size : Int) := by omega
        have E1 : Hid (∀ w, Keys w → Calls Tryz.prog 114 #[.string text] w fun e w' => e = .returned (.agg (digCells text)) ∧ Below w.heap.size w w') := fun w hK => digitsOf_any text w (by omega) hK
        have E2 : Hid (∀ w', Below w.heap.size w w' → Calls Tryz.prog 116 #[.slice a1 el.length c1] w' fun e w'' => e = .returned (.agg (cellsT 6 fun j => el.getD j ByteArray.empty)) ∧ Below w'.heap.size w' w'') := fun w' hb => chainsAt_any _ el w' ((H0.out.2.2.1.below hb).up hb.size) HY.out.2.1 (HK.out.below hb HK.out.lt)
        have hz : ∀ j, j < 6 → (el.getD j ByteArray.empty).size = 32 := wide_get HY.out.2.2.2.1 HY.out.2.1
        have E3 : Hid (∀ d w', Below w.heap.size w w' → DigAt w' d text → Calls Tryz.prog 117 #[.agg (cellsT 6 fun j => el.getD j ByteArray.empty), .func (.func 115) #[] #[.pointer (some ⟨d, 0, none⟩)]] w' fun e w'' => e = .returned (.agg (cellsT 6 fun j => stepsB (15 - digB text j) (el.getD j ByteArray.empty))) ∧ Below w'.heap.size w' w'') :=
          fun d w' hb hd => takenLeft_any (fun j => el.getD j ByteArray.empty) (fun j => 15 - digB text j) d w' hz (fun j _ => by omega) (HK.out.below hb HK.out.lt) fun j W hj hbW => whatLeft_any j d text W hj (hd.below hbW hd.lt)
        have E4 : Hid (∀ w', Below w.heap.size w w' → Calls Tryz.prog 118 #[.agg (cellsT 6 fun j => stepsB (15 - digB text j) (el.getD j ByteArray.empty))] w' fun e w'' => e = .returned (.string (leftB text el)) ∧ Below w'.heap.size w' w'') := fun w' hb => public_any _ w' (fun j hj => stepsB_size _ (hz j hj)) (HK.out.below hb HK.out.lt)
        have E5 : Hid (∀ w', Below w.heap.size w w' → Calls Tryz.prog 108 #[.string (leftB text el)] w' fun e w'' => e = .returned (.string (leafB (leftB text el))) ∧ Below w'.heap.size w' w'') := fun w' hb => by
          have := implLeaf_any (leftB text el) w' (by rw [leftB_size]; omega) (HK.out.below hb HK.out.lt)
          rw [leafV_right (by rw [leftB_size]; omega)] at this
          exact this
        have E6 : Hid (∀ w', Below w.heap.size w w' → Calls Tryz.prog 119 #[.string (leafB (leftB text el)), .int .i64 k, .int .i64 4, .slice a2 pl.length c2, .string root] w' fun e w'' => e = .returned (.bool (inclB (leafB (leftB text el)) k 4 pl root)) ∧ Below w'.heap.size w' w'') := fun w' hb => implIncl_any _ root k 4 _ pl w' ((H0.out.2.2.2.1.below hb).up hb.size) hl2 (by omega) (by omega) (by omega) (by omega) (by rw [leafB_size]; omega) hr (HK.out.below hb HK.out.lt)
        have hmf : ∀ (fn : Fn) (first cap : Array Value) (w : World), (Instr.makeFunc fn first cap).run Tryz.prog w = .ok (.func fn first cap) w := fun _ _ _ _ => rfl
        generalize inclB (leafB (leftB text el)) k 4 pl root = V at *
        generalize leafB (leftB text el) = LB at *
        generalize leftB text el = PB at *
        generalize (cellsT 6 fun j => stepsB (15 - digB text j) (el.getD j ByteArray.empty)) = A2 at *
        generalize (cellsT 6 fun j => el.getD j ByteArray.empty) = A1 at *
        clear hz hs hr32 ht2 HY
        go_enter Tryz.func97, Tryz.ntmps97
        go_wp2_with fail
        rw [← HW.out]
        refine E0.out.mono ?_
        rintro e w1 ⟨rfl, hb1⟩
        have H1 : Hid (Below w.heap.size w w1 ∧ w1.heap[w.heap.size]? = some (.cells #[.int .i64 k, .slice a1 el.length c1, .slice a2 pl.length c2] 35 (0, 0))) := ⟨H0.out.1.trans (hb1.mono H0.out.1.size), (hb1.block _ H0.out.2.2.2.2).trans H0.out.2.1⟩
        clear hb1 E0 HW
        go_wp2_with fail
        refine (ER.out _).mono ?_
        rintro e w2 ⟨rfl, rfl⟩
        have H2 : Hid (Below w.heap.size w (w1.alloc (.cells #[.string root] 9)) ∧ (w1.alloc (.cells #[.string root] 9)).heap[w.heap.size]? = some (.cells #[.int .i64 k, .slice a1 el.length c1, .slice a2 pl.length c2] 35 (0, 0))) := ⟨H1.out.1.alloc H1.out.1.size _, (heap_alloc_old w1 _ (Array.getElem?_eq_some_iff.1 H1.out.2).1).trans H1.out.2⟩
        generalize w1.alloc (.cells #[.string root] 9) = w2 at *
        clear H1 ER
        go_wp2_with fail
        refine (E1.out _ (HK.out.below H2.out.1 HK.out.lt)).mono ?_
        rintro e w3 ⟨rfl, hb3⟩
        have hl2w : w.heap.size < w2.heap.size := (Array.getElem?_eq_some_iff.1 H2.out.2).1
        have H3 : Hid (Below w.heap.size w (w3.alloc (.cells (digCells text) 147)) ∧ (w3.alloc (.cells (digCells text) 147)).heap[w.heap.size]? = some (.cells #[.int .i64 k, .slice a1 el.length c1, .slice a2 pl.length c2] 35 (0, 0)) ∧ DigAt (w3.alloc (.cells (digCells text) 147)) w3.heap.size text) := by
          have hb : Below w.heap.size w w3 := H2.out.1.trans (hb3.mono H2.out.1.size)
          have hg := (hb3.block _ hl2w).trans H2.out.2
          exact ⟨hb.alloc hb.size _, (heap_alloc_old w3 _ (Array.getElem?_eq_some_iff.1 hg).1).trans hg, heap_alloc_new w3 _⟩
        have hg3 := (hb3.block _ hl2w).trans H2.out.2
        have hl3w : w.heap.size < w3.heap.size := (Array.getElem?_eq_some_iff.1 hg3).1
        obtain ⟨⟨b0, b1, b2⟩, _⟩ := three_cells (Below.refl w3.heap.size w3) hl3w hg3
        have hone : (digCells text).all (·.oneCell') = true := by simp [digCells, Value.oneCell']
        have hsix : (digCells text).size = 6 := rfl
        generalize digCells text = DC at *
        clear hb3 H2 E1 hl2w hg3
        go_wp2_with (refine wpList_store_row rfl 147 (.tmp 7) (.tmp 25) rfl w3.heap.size DC rfl rfl _ _ (heap_alloc_new w3 _) (by rw [hsix]; exact infoDigits) (by rw [hsix]; rfl) hone ?_; rw [World.setRow_alloc_new])
        generalize hdd : w3.heap.size = d at *
        generalize w3.alloc (.cells DC 147) = w4 at *
        clear hdd hl3w b0 b1 b2
        refine (E2.out _ H3.out.1).mono ?_
        rintro e w5 ⟨rfl, hb5⟩
        have hl4 : w.heap.size < w4.heap.size := (Array.getElem?_eq_some_iff.1 H3.out.2.1).1
        have H5 : Hid (Below w.heap.size w w5 ∧ w5.heap[w.heap.size]? = some (.cells #[.int .i64 k, .slice a1 el.length c1, .slice a2 pl.length c2] 35 (0, 0)) ∧ DigAt w5 d text) := ⟨H3.out.1.trans (hb5.mono H3.out.1.size), (hb5.block _ hl4).trans H3.out.2.1, H3.out.2.2.below hb5 H3.out.2.2.lt⟩
        clear hb5 H3 E2 hl4
        go_wp2_with fail
        refine (E3.out _ _ H5.out.1 H5.out.2.2).mono ?_
        rintro e w6 ⟨rfl, hb6⟩
        have hl5 : w.heap.size < w5.heap.size := (Array.getElem?_eq_some_iff.1 H5.out.2.1).1
        have H6 : Hid (Below w.heap.size w w6 ∧ w6.heap[w.heap.size]? = some (.cells #[.int .i64 k, .slice a1 el.length c1, .slice a2 pl.length c2] 35 (0, 0))) := ⟨H5.out.1.trans (hb6.mono H5.out.1.size), (hb6.block _ hl5).trans H5.out.2.1⟩
        clear hb6 H5 E3 hl5
        go_wp2_with fail
        refine (E4.out _ H6.out.1).mono ?_
        rintro e w7 ⟨rfl, hb7⟩
        have hl6 : w.heap.size < w6.heap.size := (Array.getElem?_eq_some_iff.1 H6.out.2).1
        have H7 : Hid (Below w.heap.size w w7 ∧ w7.heap[w.heap.size]? = some (.cells #[.int .i64 k, .slice a1 el.length c1, .slice a2 pl.length c2] 35 (0, 0))) := ⟨H6.out.1.trans (hb7.mono H6.out.1.size), (hb7.block _ hl6).trans H6.out.2⟩
        clear hb7 H6 E4 hl6
        obtain ⟨⟨b0, b1, b2⟩, _⟩ := three_cells (Below.refl w7.heap.size w7) (Array.getElem?_eq_some_iff.1 H7.out.2).1 H7.out.2
        have b0' : w7.drew.cell? ⟨w.heap.size, 0, none⟩ = some (.int .i64 k) := b0
        have b2' : w7.drew.cell? ⟨w.heap.size, 2, none⟩ = some (.slice a2 pl.length c2) := b2
        have HBD : Hid (Below w.heap.size w w7.drew) := below_drew' H7.out.1
        have hl7 : w.heap.size < w7.heap.size := (Array.getElem?_eq_some_iff.1 H7.out.2).1
        go_wp2_with fail
        go_region_with (first
          | (go_at_call 108; refine (E5.out _ ?_).mono ?_; (first | exact HBD.out | exact H7.out.1); rintro e w8 ⟨rfl, hb8⟩; have hb8' : Below w7.heap.size w7 w8 := (by first | exact below_drew hb8 | exact hb8); have H8 : Hid (Below w.heap.size w w8) := H7.out.1.trans (hb8'.mono H7.out.1.size); obtain ⟨⟨d0, d1, d2⟩, _⟩ := three_cells hb8' hl7 H7.out.2; clear hb8 hb8')
          | (go_at_call 119; refine (E6.out _ ?_).mono ?_; (first | exact H8.out | exact below_drew' H8.out); rintro e w9 ⟨rfl, hb9⟩; have H9 : Hid (Below w.heap.size w w9) := H8.out.trans ((by first | exact below_drew hb9 | exact hb9 : Below w8.heap.size w8 w9).mono H8.out.size); clear hb9))
        all_goals
          go_wp2
          go_ret
          exact ⟨rfl, H9.out⟩
      · rw [verB_text hs hr32 ht2]
        have htI : 20000 < (text.size : Int) := by omega
        clear hs ht2 hr32
        go_enter Tryz.func97, Tryz.ntmps97
        go_wp2_with fail
        rw [← HW.out]
        refine E0.out.mono ?_
        rintro e w1 ⟨rfl, hb1⟩
        have H1 : Hid (Below w.heap.size w w1) := H0.out.1.trans (hb1.mono H0.out.1.size)
        clear hb1 E0 HW
        go_wp2_with fail
        refine (ER.out _).mono ?_
        rintro e w2 ⟨rfl, rfl⟩
        go_wp2
        go_ret
        exact ⟨rfl, H1.out.alloc H1.out.size _⟩
    · rw [decide_eq_false hr32] at ER
      rw [verB_root hs hr32]
      clear hs hr32
      go_enter Tryz.func97, Tryz.ntmps97
      go_wp2_with fail
      rw [← HW.out]
      refine E0.out.mono ?_
      rintro e w1 ⟨rfl, hb1⟩
      have H1 : Hid (Below w.heap.size w w1) := H0.out.1.trans (hb1.mono H0.out.1.size)
      clear hb1 E0 HW
      go_wp2_with fail
      refine (ER.out _).mono ?_
      rintro e w2 ⟨rfl, rfl⟩
      go_wp2
      go_ret
      exact ⟨rfl, H1.out.alloc H1.out.size _⟩
  · have hf : sigRB k el pl = false := by simpa using hs
    rw [hf] at E0
    rw [verB_sig hf]
    clear hs hf
    go_enter Tryz.func97, Tryz.ntmps97
    go_wp2_with fail
    rw [← HW.out]
    refine E0.out.mono ?_
    rintro e w1 ⟨rfl, hb1⟩
    have H1 : Hid (Below w.heap.size w w1) := H0.out.1.trans (hb1.mono H0.out.1.size)
    clear hb1 E0 HW
    go_wp2
    go_ret
    exact ⟨rfl, H1.out⟩
end Go.Proofs.YtcenlgfopmahcaaGreatDoor
