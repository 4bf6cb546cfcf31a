/-
  The program's Sign.
-/
import Derived.Test.YtpglcbidfghfkaaGreatDoorPkRight
import Derived.Test.YtpglcbidfghfkaaGreatDoorPkImplNode
import Derived.Test.YtpglcbidfghfkaaGreatDoorPkImplDigits
import Derived.Test.YtpglcbidfghfkaaGreatDoorPkCells
import Derived.Test.YtpglcbidfghfkaaGreatDoorPkMem
import Derived.Test.YtpglcbidfghfkaaGreatDoorPkCut
namespace Go.Proofs.YtpglcbidfghfkaaGreatDoor
open Go.RowKit Go.Lib
set_option linter.unusedVariables false
set_option linter.unusedSimpArgs false

set_option maxHeartbeats 400000 in
theorem asSigned_any (k d : Nat) (t : ByteArray) (w : World) (hk : k < 6) (hd : DigAt w d t) :
    Calls Tryz.prog 145 #[.int .i64 k, .pointer (some ⟨d, 0, none⟩)] w fun e w' => e = .returned (.int .i64 ((digB t k : Nat) : Int)) ∧ w' = w := by
  have hc := hd.cell k hk
  generalize ((digB t k : Nat) : Int) = D at *
  have hkI : (k : Int) < 6 := by omega
  have hk0 : (0 : Int) ≤ (k : Int) := by omega
  clear hd
  go_enter Tryz.func145, Tryz.ntmps145
  go_wp2
  go_ret
  exact ⟨rfl, rfl⟩

/-- What Sign answers: the Ends in a row of their own ahead of n, the Path in one behind it. -/
def SigAns (w : World) (k : Int) (el pl : List ByteArray) (e : Ending) (w' : World) : Prop :=
  ∃ ve vp n, e = .returned (.agg #[.int .i64 k, ve, vp]) ∧ OwnT w' w.heap.size ve el ∧ OwnT w' n vp pl ∧ (∀ g, ve.ownBlock = some g → g < n) ∧ w.heap.size ≤ n ∧ n ≤ w'.heap.size ∧ Below w.heap.size w w'

set_option maxHeartbeats 2000000 in
set_option maxRecDepth 10000 in
theorem implSignY_any (s : ByteArray) (k : Int) (t : ByteArray) (w : World) (hsd : seedB s = true) (hk0 : 0 ≤ k) (hk1 : k ≤ 3) (ht : t.size ≤ 20000) (hK : Keys w) :
    Calls Tryz.prog 67 #[.string s, .int .i64 k, .string t] w fun e w' => SigAns w k (endsB s k t) (pathB (pubsB s) k.toNat) e w' := by
  have hs := seedB_yes hsd
  have E0 : Hid (∀ w, Calls Tryz.prog 61 #[.string s] w fun e w' => e = .returned (.bool true) ∧ w' = w) := fun w => by rw [← hsd]; exact seedRight_any s w (by omega)
  have E0b : Hid (∀ w, Calls Tryz.prog 62 #[.int .i64 k] w fun e w' => e = .returned (.bool true) ∧ w' = w) := fun w => by
    have := keyRight_any k w
    rw [decide_eq_true ⟨hk0, hk1⟩] at this
    exact this
  have E1 : Hid (∀ w, Keys w → Calls Tryz.prog 144 #[.string t] w fun e w' => e = .returned (.agg (digCells t)) ∧ Below w.heap.size w w') := fun w hK => digitsOf_any t w ht hK
  have E2 : Hid (∀ w, Keys w → Calls Tryz.prog 146 #[.string s, .int .i64 k] w fun e w' => e = .returned (.agg (cellsT 6 fun j => beginB s k j)) ∧ Below w.heap.size w w') := fun w hK => chainsOf_any s k w (by omega) hk0 hk1 hK
  have E3 : Hid (∀ d w, DigAt w d t → Keys w → Calls Tryz.prog 147 #[.agg (cellsT 6 fun j => beginB s k j), .func (.func 145) #[] #[.pointer (some ⟨d, 0, none⟩)]] w fun e w' => e = .returned (.agg (cellsT 6 fun j => stepsB (digB t j) (beginB s k j))) ∧ Below w.heap.size w w') :=
    fun d w hd hK => takenSign_any (fun j => beginB s k j) (digB t) d w (fun j _ => beginB_size _ _ _) (fun j _ => digB_le t j) hK fun j W hj hb => asSigned_any j d t W hj (hd.below hb hd.lt)
  have E4 : Hid (∀ w, Calls Tryz.prog 148 #[.agg (cellsT 6 fun j => stepsB (digB t j) (beginB s k j))] w fun e w' => ∃ v, e = .returned v ∧ OwnT w' w.heap.size v (endsB s k t) ∧ Below w.heap.size w w') := fun w => texts_any _ w
  have E5 : Hid (∀ w, Keys w → Calls Tryz.prog 150 #[.string s] w fun e w' => ∃ v, e = .returned v ∧ OwnT w' w.heap.size v (pubsB s) ∧ Below w.heap.size w w') := fun w hK => implPubs_any s w (by omega) hK
  have E6 : Hid (∀ v w, Texts w w.heap.size v (pubsB s) → Keys w → Calls Tryz.prog 149 #[v, .int .i64 k] w fun e w' => ∃ v', e = .returned v' ∧ OwnT w' w.heap.size v' (pathB (pubsB s) k.toNat) ∧ Below w.heap.size w w') := fun v w h hK => by
    have := implPathOf_any v (pubsB s) k w h (by rw [pubsB_len]; omega) (by omega) (by omega) hK
    rw [pathV_pubs s hk0 hk1] at this
    exact this
  generalize pubsB s = L at *
  generalize pathB L k.toNat = P at *
  generalize endsB s k t = EN at *
  generalize (cellsT 6 fun j => stepsB (digB t j) (beginB s k j)) = A2 at *
  generalize (cellsT 6 fun j => beginB s k j) = A1 at *
  have HK : Hid (Keys (w.alloc (.cells #[.int .i64 0, .slice none 0 0, .slice none 0 0] 27))) := hK.below ((Below.refl w.heap.size w).alloc (Nat.le_refl _) _) hK.lt
  have htI : ¬ 20000 < (t.size : Int) := by omega
  have hmf : ∀ (fn : Fn) (first cap : Array Value) (w : World), (Instr.makeFunc fn first cap).run Tryz.prog w = .ok (.func fn first cap) w := fun _ _ _ _ => rfl
  obtain ⟨W, hW⟩ : ∃ W, W = w.alloc (.cells #[.int .i64 0, .slice none 0 0, .slice none 0 0] 27) := ⟨_, rfl⟩
  clear hs hsd hK ht
  go_enter Tryz.func67, Tryz.ntmps67
  go_wp2_with fail
  refine (E0.out _).mono ?_
  rintro e w0 ⟨rfl, rfl⟩
  go_wp2_with fail
  refine (E0b.out _).mono ?_
  rintro e w0 ⟨rfl, rfl⟩
  go_wp2_with fail
  refine (E1.out _ HK.out).mono ?_
  rintro e w1 ⟨rfl, hb1⟩
  have H1 : Hid (w1.heap[w.heap.size]? = some (.cells #[.int .i64 0, .slice none 0 0, .slice none 0 0] 27 (0, 0)) ∧ Below w.heap.size w w1 ∧ Keys w1) := ⟨(hb1.block _ (by simp)).trans (heap_alloc_new w _), below_after hb1, HK.out.below hb1 HK.out.lt⟩
  clear hb1 E1 HK
  have hone : (digCells t).all (·.oneCell') = true := by simp [digCells, Value.oneCell']
  have hsix : (digCells t).size = 6 := rfl
  have HD1 : Hid (DigAt (w1.alloc (.cells (digCells t) 159)) w1.heap.size t) := heap_alloc_new w1 _
  generalize digCells t = DC at *
  go_wp2_with (refine wpList_store_row rfl 159 (.tmp 7) (.tmp 24) rfl w1.heap.size DC rfl rfl _ _ (heap_alloc_new w1 _) (by rw [hsix]; exact infoDigits) (by rw [hsix]; rfl) hone ?_; rw [World.setRow_alloc_new])
  have H2 : Hid ((w1.alloc (.cells DC 159)).heap[w.heap.size]? = some (.cells #[.int .i64 0, .slice none 0 0, .slice none 0 0] 27 (0, 0)) ∧ Below w.heap.size w (w1.alloc (.cells DC 159)) ∧ Keys (w1.alloc (.cells DC 159)) ∧ DigAt (w1.alloc (.cells DC 159)) w1.heap.size t) :=
    ⟨(heap_alloc_old w1 _ (Array.getElem?_eq_some_iff.1 H1.out.1).1).trans H1.out.1, H1.out.2.1.alloc H1.out.2.1.size _, H1.out.2.2.below ((Below.refl w1.heap.size w1).alloc (Nat.le_refl _) _) H1.out.2.2.lt, HD1.out⟩
  generalize w1.alloc (.cells DC 159) = w2 at *
  clear H1 HD1 hone hsix hW W
  refine (E2.out _ H2.out.2.2.1).mono ?_
  rintro e w3 ⟨rfl, hb3⟩
  have H3 : Hid (w3.heap[w.heap.size]? = some (.cells #[.int .i64 0, .slice none 0 0, .slice none 0 0] 27 (0, 0)) ∧ Below w.heap.size w w3 ∧ Keys w3 ∧ DigAt w3 w1.heap.size t) := ⟨(hb3.block _ (Array.getElem?_eq_some_iff.1 H2.out.1).1).trans H2.out.1, H2.out.2.1.trans (hb3.mono H2.out.2.1.size), H2.out.2.2.1.below hb3 H2.out.2.2.1.lt, H2.out.2.2.2.below hb3 H2.out.2.2.2.lt⟩
  clear hb3 H2 E2
  go_wp2_with fail
  refine (E3.out _ _ H3.out.2.2.2 H3.out.2.2.1).mono ?_
  rintro e w4 ⟨rfl, hb4⟩
  have H4 : Hid (w4.heap[w.heap.size]? = some (.cells #[.int .i64 0, .slice none 0 0, .slice none 0 0] 27 (0, 0)) ∧ Below w.heap.size w w4 ∧ Keys w4) := ⟨(hb4.block _ (Array.getElem?_eq_some_iff.1 H3.out.1).1).trans H3.out.1, H3.out.2.1.trans (hb4.mono H3.out.2.1.size), H3.out.2.2.1.below hb4 H3.out.2.2.1.lt⟩
  clear hb4 H3 E3
  go_wp2_with fail
  refine (E4.out _).mono ?_
  rintro e w5 ⟨ve, rfl, hown5, hb5⟩
  obtain ⟨a5, cap5, rfl⟩ := hown5.len
  have hl4 : w.heap.size < w4.heap.size := (Array.getElem?_eq_some_iff.1 H4.out.1).1
  have H5 : Hid (w5.heap[w.heap.size]? = some (.cells #[.int .i64 0, .slice none 0 0, .slice none 0 0] 27 (0, 0)) ∧ Below w.heap.size w w5 ∧ Keys w5 ∧ OwnT w5 (w.heap.size + 1) (.slice a5 EN.length cap5) EN) := ⟨(hb5.block _ hl4).trans H4.out.1, H4.out.2.1.trans (hb5.mono H4.out.2.1.size), H4.out.2.2.below hb5 H4.out.2.2.lt, hown5.lower hl4⟩
  clear hb5 H4 E4 hown5 hl4
  go_wp2_with fail
  refine (E5.out _ H5.out.2.2.1).mono ?_
  rintro e w6 ⟨v6, rfl, hown6, hb6⟩
  have hl5 : w.heap.size < w5.heap.size := (Array.getElem?_eq_some_iff.1 H5.out.1).1
  have H6 : Hid (w6.heap[w.heap.size]? = some (.cells #[.int .i64 0, .slice none 0 0, .slice none 0 0] 27 (0, 0)) ∧ Below w.heap.size w w6 ∧ Keys w6 ∧ OwnT w6 (w.heap.size + 1) (.slice a5 EN.length cap5) EN ∧ Texts w6 w6.heap.size v6 L) := ⟨(hb6.block _ hl5).trans H5.out.1, H5.out.2.1.trans (hb6.mono H5.out.2.1.size), H5.out.2.2.1.below hb6 H5.out.2.2.1.lt, H5.out.2.2.2.below hb6 (Nat.le_refl _), hown6.texts⟩
  clear hb6 H5 E5 hown6 hl5
  go_wp2_with fail
  refine (E6.out _ _ H6.out.2.2.2.2 H6.out.2.2.1).mono ?_
  rintro e w7 ⟨vp, rfl, hown7, hb7⟩
  obtain ⟨a7, cap7, rfl⟩ := hown7.len
  have hl6 : w.heap.size < w6.heap.size := (Array.getElem?_eq_some_iff.1 H6.out.1).1
  have hg7 : w7.heap[w.heap.size]? = some (.cells #[.int .i64 0, .slice none 0 0, .slice none 0 0] 27 (0, 0)) := (hb7.block _ hl6).trans H6.out.1
  have H7 : Hid (Below w.heap.size w w7 ∧ OwnT w7 (w.heap.size + 1) (.slice a5 EN.length cap5) EN ∧ OwnT w7 w6.heap.size (.slice a7 P.length cap7) P ∧ (∀ g, (Value.slice a5 EN.length cap5).ownBlock = some g → g < w6.heap.size) ∧ w.heap.size < w6.heap.size ∧ w6.heap.size ≤ w7.heap.size) :=
    ⟨H6.out.2.1.trans (hb7.mono H6.out.2.1.size), H6.out.2.2.2.1.below hb7 (Nat.le_refl _), hown7, fun g hg => (World.ownsRow.lt H6.out.2.2.2.1 g hg).2, hl6, hb7.size⟩
  have hl7 : w.heap.size < w7.heap.size := (Array.getElem?_eq_some_iff.1 hg7).1
  obtain ⟨⟨c0, c1, c2⟩, f0, f1, f2⟩ := three_cells (Below.refl w7.heap.size w7) hl7 hg7
  clear hb7 H6 E6 hown7 hl6 hg7
  go_wp2
  exact bodyPost_ret (v := .agg #[.int .i64 k, .slice a5 EN.length cap5, .slice a7 P.length cap7]) (by simp [results, Tryz.results67, go_sem, c0, c1, c2, f0, f1, f2]) rfl
    ⟨_, _, w6.heap.size, rfl, (((H7.out.2.1.far (Nat.lt_succ_self _)).far (Nat.lt_succ_self _)).far (Nat.lt_succ_self _)).lower (Nat.le_succ _), ((H7.out.2.2.1.far H7.out.2.2.2.2.1).far H7.out.2.2.2.2.1).far H7.out.2.2.2.2.1, H7.out.2.2.2.1, Nat.le_of_lt H7.out.2.2.2.2.1, by simpa [World.setCell] using H7.out.2.2.2.2.2, ((H7.out.1.setCell (Nat.le_refl _) _).setCell (Nat.le_refl _) _).setCell (Nat.le_refl _) _⟩
end Go.Proofs.YtpglcbidfghfkaaGreatDoor

/-
  The program's Sign, at every argument.
-/
namespace Go.Proofs.YtpglcbidfghfkaaGreatDoor
open Go.RowKit Go.Lib
set_option linter.unusedVariables false
set_option linter.unusedSimpArgs false

set_option maxHeartbeats 1000000 in
set_option maxRecDepth 10000 in
theorem implSign_any (s : ByteArray) (k : Int) (t : ByteArray) (w : World) (hs : s.size ≤ 1048576) (ht : t.size ≤ 1048576) (hK : Keys w) :
    Calls Tryz.prog 67 #[.string s, .int .i64 k, .string t] w fun e w' => SigAns w (sigKey s k t) (sigEnds s k t) (sigPath s k t) e w' := by
  unfold sigKey sigEnds sigPath
  by_cases h : signB s k t = true
  · obtain ⟨h1, h2, h3, h4⟩ := signB_yes h
    rw [if_pos h, if_pos h, if_pos h]
    exact implSignY_any s k t w h1 h2 h3 (by omega) hK
  have E0 : Hid (∀ w, Calls Tryz.prog 61 #[.string s] w fun e w' => e = .returned (.bool (seedB s)) ∧ w' = w) := fun w => seedRight_any s w hs
  have E1 : Hid (∀ w, Calls Tryz.prog 62 #[.int .i64 k] w fun e w' => e = .returned (.bool (decide (0 ≤ k ∧ k ≤ 3))) ∧ w' = w) := fun w => keyRight_any k w
  have HZ : Hid (∀ W : World, Below w.heap.size w W → SigAns w 0 [] [] (.returned (.agg #[.int .i64 0, .slice none 0 0, .slice none 0 0])) W) := fun W hb => ⟨_, _, w.heap.size, rfl, OwnT.nil _ _, OwnT.nil _ _, fun g hg => by simp [Value.ownBlock] at hg, Nat.le_refl _, hb.size, hb⟩
  clear hK
  · rw [if_neg h, if_neg h, if_neg h]
    rcases signB_no h with h1 | ⟨h1, h2⟩ | ⟨h1, h2, h3⟩
    · rw [h1] at E0
      clear h E1
      go_enter Tryz.func67, Tryz.ntmps67
      go_wp2_with fail
      refine (E0.out _).mono ?_
      rintro e w0 ⟨rfl, rfl⟩
      go_wp2
      exact bodyPost_ret (v := .agg #[.int .i64 0, .slice none 0 0, .slice none 0 0]) (by simp [results, Tryz.results67, go_sem]) rfl (HZ.out _ ((Below.refl _ _).alloc (Nat.le_refl _) _))
    · rw [h1] at E0
      rw [decide_eq_false h2] at E1
      clear h
      go_enter Tryz.func67, Tryz.ntmps67
      go_wp2_with fail
      refine (E0.out _).mono ?_
      rintro e w0 ⟨rfl, rfl⟩
      go_wp2_with fail
      refine (E1.out _).mono ?_
      rintro e w0 ⟨rfl, rfl⟩
      go_wp2
      exact bodyPost_ret (v := .agg #[.int .i64 0, .slice none 0 0, .slice none 0 0]) (by simp [results, Tryz.results67, go_sem]) rfl (HZ.out _ ((Below.refl _ _).alloc (Nat.le_refl _) _))
    · rw [h1] at E0
      rw [decide_eq_true h2] at E1
      clear h
      go_enter Tryz.func67, Tryz.ntmps67
      go_wp2_with fail
      refine (E0.out _).mono ?_
      rintro e w0 ⟨rfl, rfl⟩
      go_wp2_with fail
      refine (E1.out _).mono ?_
      rintro e w0 ⟨rfl, rfl⟩
      go_wp2
      exact bodyPost_ret (v := .agg #[.int .i64 0, .slice none 0 0, .slice none 0 0]) (by simp [results, Tryz.results67, go_sem]) rfl (HZ.out _ ((Below.refl _ _).alloc (Nat.le_refl _) _))
end Go.Proofs.YtpglcbidfghfkaaGreatDoor
