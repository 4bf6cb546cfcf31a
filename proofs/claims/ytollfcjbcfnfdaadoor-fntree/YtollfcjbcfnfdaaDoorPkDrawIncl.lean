/-
  The draws of Included's and NodeHash's arguments.
-/
import Derived.Test.YtollfcjbcfnfdaaDoorPkDrawSome
import Derived.Test.YtollfcjbcfnfdaaDoorPkSpecTree
import Derived.Test.YtollfcjbcfnfdaaDoorPkRight
import Derived.Test.YtollfcjbcfnfdaaDoorPkSpecAll
import Derived.Test.YtollfcjbcfnfdaaDoorPkSpecAdd
import Derived.Test.YtollfcjbcfnfdaaDoorPkStepLaws
import Derived.Test.YtollfcjbcfnfdaaDoorPkTextRows
import Derived.Test.YtollfcjbcfnfdaaDoorPkDrawSeed
import Derived.Deep.RegionWith
import Derived.Deep.RegionHeld3
import Derived.Deep.DeepCutAuto
namespace Go.Proofs.YtollfcjbcfnfdaaDoor
open Go.RowKit Go.Lib
set_option linter.unusedVariables false
set_option linter.unusedSimpArgs false

theorem treeV_few (l : List ByteArray) : (treeV l).size ≤ 32 := by
  unfold treeV
  split
  · rw [treeB_size]; omega
  · decide
theorem digV_few (t : ByteArray) : (digV t).size ≤ 32 := by
  unfold digV
  split
  · decide
  · rw [shaB_size]; omega
theorem leafV_few (t : ByteArray) : (leafV t).size ≤ 32 := by
  unfold leafV
  split
  · decide
  · rw [leafB_size]; omega
theorem pathV_told {l : List ByteArray} (hl : l.length ≤ 64) (i : Nat) (hi : i < l.length) : (pathV l i).length ≤ 6 ∧ ∀ t ∈ pathV l i, t.size = 32 := by
  unfold pathV
  split
  · obtain ⟨h2, h3⟩ := pathB_short l.length l i 6 rfl (by omega) (by omega)
    rw [Int.toNat_natCast]
    refine ⟨h2, fun t ht => ?_⟩
    obtain ⟨j, hj, rfl⟩ := List.getElem_of_mem ht
    have := wideB_at h3 hj
    omega
  · exact ⟨by simp, fun t ht => by simp at ht⟩
/-- What is drawn for Included; of what was there nothing has turned. -/
def InclAns (w : World) (e : Ending) (w' : World) : Prop := ∃ (leaf : ByteArray) (i n : Int) (v : Value) (l : List ByteArray) (rt : ByteArray), e = .returned (.tuple #[.string leaf, .int .i64 i, .int .i64 n, v, .string rt]) ∧ Texts w' w'.heap.size v l ∧ l.length ≤ 1000 ∧
  (-9223372036854775808 ≤ i ∧ i ≤ 9223372036854775807 ∧ -9223372036854775808 ≤ n ∧ n ≤ 9223372036854775807) ∧ leaf.size ≤ 32 ∧ rt.size ≤ 32 ∧ Below w.heap.size w w'
/-- In between: the entries in a row of the draw's own, the source. -/
def DrI (w W : World) (B : Nat) (v : Value) (l : List ByteArray) : Prop := OwnT W B v l ∧ Src W w.heap.size ∧ Below w.heap.size w W ∧ w.heap.size < B
theorem DrI.below {w W W' : World} {B : Nat} {v : Value} {l : List ByteArray} (h : DrI w W B v l) (hb : Below W.heap.size W W') : DrI w W' B v l :=
  ⟨h.1.below hb (Nat.le_refl _), h.2.1.below hb h.2.1.lt, h.2.2.1.trans (hb.mono h.2.2.1.size), h.2.2.2⟩
theorem DrI.grow {w W W' : World} {B : Nat} {v : Value} {l : List ByteArray} (h : DrI w W B v l) (hg : W.grownBy W' (some w.heap.size)) (hs : Src W' w.heap.size) : DrI w W' B v l :=
  ⟨h.1.grown hg h.2.2.2, hs, below_of_grown h.2.2.1 hg, h.2.2.2⟩

set_option maxHeartbeats 4000000 in
set_option maxRecDepth 10000 in
theorem drawIncluded_any (a : Option Addr) (len cap : Nat) (w : World) (hc : Code w w.heap.size a len) (hl : len ≤ 1048576) :
    Calls Tryd.prog 15 #[.slice a len cap] w fun e w' => InclAns w e w' := by
  have E0 : Hid (Calls Tryd.prog 33 #[.slice a len cap] w fun e w' => PtrAns w e w') := source_any a len cap w hc hl
  have ES : Hid (∀ w', Src w' w.heap.size → Calls Tryd.prog 34 #[.pointer (some ⟨w.heap.size, 0, none⟩)] w' fun e w'' => SomeAns 101 w.heap.size w' e w'') := fun w' h => some_any _ w' h
  have EN : Hid (∀ m w', Src w' w.heap.size → m ≤ 1000 → Calls Tryd.prog 35 #[.pointer (some ⟨w.heap.size, 0, none⟩), .int .i64 m] w' fun e w'' => NumAns m w.heap.size w' e w'') := fun m w' h hm => n_any _ m w' h (by omega)
  have EO : Hid (∀ w', Src w' w.heap.size → Calls Tryd.prog 51 #[.pointer (some ⟨w.heap.size, 0, none⟩), .int .i64 3] w' fun e w'' => BoolAns w.heap.size w' e w'') := fun w' h => one_any _ 3 w' h (by omega)
  have EE : Hid (∀ w', Src w' w.heap.size → Calls Tryd.prog 53 #[.pointer (some ⟨w.heap.size, 0, none⟩)] w' fun e w'' => AnyAns w.heap.size w' e w'') := fun w' h => edge_any _ w' h
  have ET : Hid (∀ v l w', Texts w' w'.heap.size v l → l.length ≤ 100 → Calls Tryd.prog 8 #[v] w' fun e w'' => e = .returned (.string (treeV l)) ∧ Below w'.heap.size w' w'') := fun v l w' h hl => specTreeHash_any v l w' h (by omega)
  have EP : Hid (∀ v l w' (m : Nat), Texts w' w'.heap.size v l → l.length ≤ 100 → m ≤ 100 → Calls Tryd.prog 10 #[v, .int .i64 m] w' fun e w'' => ∃ v', e = .returned v' ∧ OwnT w'' w'.heap.size v' (pathV l m) ∧ Below w'.heap.size w' w'') := fun v l w' m h hl h1 => specPathOf_any v l m w' h (by omega) (by omega) (by omega)
  have EL : Hid (∀ t w', t.size ≤ 101 → Calls Tryd.prog 50 #[.string t] w' fun e w'' => DigAns w' e w'') := fun t w' ht => (specLeafHash_any t w' (by omega)).mono fun e w'' h => ⟨_, h.1, leafV_few t, h.2⟩
  have ED0 : Hid (∀ s w', Calls Tryd.prog 54 #[.string ⟨#[s]⟩] w' fun e w'' => DigAns w' e w'') := fun s w' => (specDigest_any ⟨#[s]⟩ w' (show (1 : Nat) ≤ 1048576 by omega)).mono (by
    rintro e w'' ⟨rfl, hb⟩
    exact ⟨_, rfl, digV_few _, hb⟩)
  have EZ : Hid (∀ w', Calls Tryd.prog 54 #[.string ⟨#[122]⟩] w' fun e w'' => DigAns w' e w'') := fun w' => ED0.out 122 w'
  have EX : Hid (∀ v l w', Src w' w.heap.size → Texts w' w'.heap.size v l → l.length ≤ 100 → (∀ t ∈ l, t.size = 32) → Calls Tryd.prog 52 #[.pointer (some ⟨w.heap.size, 0, none⟩), v] w' fun e w'' => SpoilAns w.heap.size l.length w' e w'') := fun v l w' hs ht hl hz => spoil_any _ v l w' hs ht hl hz ED0
  clear hc ED0
  go_enter Tryd.func15, Tryd.ntmps15
  go_wp2_with fail
  refine E0.out.mono ?_
  rintro e w1 ⟨rfl, hs1, hb1⟩
  have H1 : Hid (Src w1 w.heap.size ∧ Below w.heap.size w w1) := ⟨hs1, hb1⟩
  clear hs1 hb1 E0
  go_wp2_with fail
  refine (ES.out _ H1.out.1).mono ?_
  rintro e w2 ⟨v2, l2, rfl, ho2, hl2, hz2, hs2, hg2⟩
  have H2 : Hid (DrI w w2 w1.heap.size v2 l2) := ⟨ho2, hs2, below_of_grown H1.out.2 hg2, H1.out.1.lt⟩
  have HZ2 : Hid (∀ t ∈ l2, t.size ≤ 101) := hz2
  have hown := H2.out.1
  have hszw : w1.heap.size ≤ w2.heap.size := hg2.size
  have hll : l2.length ≤ 1048576 := by omega
  have HB1 : Hid (w.heap.size < w1.heap.size) := H1.out.1.lt
  clear ho2 hz2 hs2 hg2 ES
  go_wp2_with (at_builtin; go_must (refine wp_app_text rfl (.tmp 17) (.tmp 18) rfl w1.heap.size _ _ rfl hown ⟨#[101, 110, 100]⟩ rfl hll hszw ?_); intro v3 w3 hown3 hb3; obtain ⟨a3, c3, rfl⟩ : ∃ a c, v3 = .slice a (l2.length + 1) c := (by obtain ⟨a, c, h⟩ := hown3.len; exact ⟨a, c, by rw [h]; simp⟩))
  obtain ⟨L, hL⟩ : ∃ L, L = l2 ++ [(⟨#[101, 110, 100]⟩ : ByteArray)] := ⟨_, rfl⟩
  rw [← hL] at hown3
  have HLN : Hid (L.length = l2.length + 1 ∧ ∀ t ∈ L, t.size ≤ 101) := by
    refine ⟨by rw [hL]; simp, fun t ht => ?_⟩
    rw [hL] at ht
    rcases List.mem_append.1 ht with h | h
    · exact HZ2.out t h
    · rw [List.mem_singleton.1 h]; decide
  have H3 : Hid (DrI w w3 w1.heap.size (.slice a3 (l2.length + 1) c3) L) := ⟨hown3, H2.out.2.1.below hb3 HB1.out, H2.out.2.2.1.trans (hb3.mono (Nat.le_of_lt HB1.out)), HB1.out⟩
  generalize l2.length = n2 at *
  generalize w1.heap.size = B at *
  clear hown hszw hll H2 H1 hown3 hb3 hL HZ2
  obtain ⟨g, rfl⟩ : ∃ g, a3 = some ⟨g, 0, none⟩ := by
    rcases id H3.out.1 with ⟨_, ⟨e, _⟩ | ⟨g, cap', cur, e, _⟩⟩
    · simp at e
    · simp at e; exact ⟨g, e.1⟩
  have hn0 : (1 : Int) ≤ (n2 : Int) + 1 := by omega
  have hn1 : (n2 : Int) + 1 ≤ 32 := by omega
  go_wp2_with fail
  refine (EN.out _ _ H3.out.2.1 (by omega)).mono ?_
  rintro e w4 ⟨x, rfl, hx0, hx1, hs4, hg4⟩
  have H4 : Hid (DrI w w4 B (.slice (some ⟨g, 0, none⟩) (n2 + 1) c3) L) := H3.out.grow hg4 hs4
  obtain ⟨m, rfl⟩ := Int.eq_ofNat_of_zero_le hx0
  have hm : m ≤ n2 := by omega
  clear hs4 hg4 H3 hx1 hx0
  go_wp2_with fail
  refine (EP.out _ _ _ m H4.out.1.texts (by have := HLN.out.1; omega) (by omega)).mono ?_
  rintro e w5 ⟨vp, rfl, ho5, hb5⟩
  have HPV : Hid ((pathV L m).length ≤ 6 ∧ ∀ t ∈ pathV L m, t.size = 32) := pathV_told (by have := HLN.out.1; omega) m (by have := HLN.out.1; omega)
  have H5 : Hid (DrI w w5 B (.slice (some ⟨g, 0, none⟩) (n2 + 1) c3) L ∧ OwnT w5 w4.heap.size vp (pathV L m) ∧ w.heap.size < w4.heap.size) := ⟨H4.out.below hb5, ho5, H4.out.2.1.lt⟩
  generalize pathV L m = P at *
  generalize w4.heap.size = BP at *
  clear hb5 ho5 H4 EP
  obtain ⟨hcj, hfj⟩ := H5.out.1.1.cell HLN.out.1 m (by have := HLN.out.1; omega)
  have HTJ : Hid ((L[m]'(by have := HLN.out.1; omega)).size ≤ 101) := HLN.out.2 _ (List.getElem_mem _)
  generalize L[m]'(by have := HLN.out.1; omega) = tj at *
  have hmI : (m : Int) < (n2 : Int) + 1 := by omega
  have hmJ : (0 : Int) ≤ (m : Int) := by omega
  go_wp2_with fail
  refine (EL.out _ _ HTJ.out).mono ?_
  rintro e w6 ⟨leaf, rfl, hz6, hb6⟩
  have H6 : Hid (DrI w w6 B (.slice (some ⟨g, 0, none⟩) (n2 + 1) c3) L ∧ OwnT w6 BP vp P ∧ w.heap.size < BP) := ⟨H5.out.1.below hb6, H5.out.2.1.below hb6 (Nat.le_refl _), H5.out.2.2⟩
  have HW : Hid (leaf.size ≤ 32) := hz6
  clear hz6 hb6 H5 EL hcj hfj HTJ
  go_wp2_with fail
  refine (ET.out _ _ _ H6.out.1.1.texts (by have := HLN.out.1; omega)).mono ?_
  rintro e w7 ⟨rfl, hb7⟩
  have H7 : Hid (DrI w w7 B (.slice (some ⟨g, 0, none⟩) (n2 + 1) c3) L ∧ OwnT w7 BP vp P ∧ w.heap.size < BP) := ⟨H6.out.1.below hb7, H6.out.2.1.below hb7 (Nat.le_refl _), H6.out.2.2⟩
  have HR : Hid ((treeV L).size ≤ 32) := treeV_few _
  generalize treeV L = rt at *
  clear hb7 H6 ET
  go_wp2_with fail
  refine (EO.out _ H7.out.1.2.1).mono ?_
  rintro e w8 ⟨b, rfl, hs8, hg8⟩
  have H8 : Hid (DrI w w8 B (.slice (some ⟨g, 0, none⟩) (n2 + 1) c3) L ∧ OwnT w8 BP vp P ∧ w.heap.size < BP) := ⟨H7.out.1.grow hg8 hs8, H7.out.2.1.grown hg8 H7.out.2.2, H7.out.2.2⟩
  clear hs8 hg8 H7 EO
  have HPL : Hid (P.length ≤ 1000) := by have := HPV.out.1; show _ ≤ _; omega
  have DONE : Hid (∀ (leaf' : ByteArray) (i' n' : Int) (v' : Value) (l' : List ByteArray) (W : World), Texts W W.heap.size v' l' → l'.length ≤ 1000 → -9223372036854775808 ≤ i' → i' ≤ 9223372036854775807 → -9223372036854775808 ≤ n' → n' ≤ 9223372036854775807 → leaf'.size ≤ 32 → Below w.heap.size w W → InclAns w (.returned (.tuple #[.string leaf', .int .i64 i', .int .i64 n', v', .string rt])) W) :=
    fun leaf' i' n' v' l' W h1 h2 h3 h4 h5 h6 h7 h8 => ⟨leaf', i', n', v', l', rt, rfl, h1, h2, ⟨h3, h4, h5, h6⟩, h7, HR.out, h8⟩
  cases b with
  | false =>
    go_wp2
    exact bodyPost_ret (v := .tuple #[.string leaf, .int .i64 m, .int .i64 ((n2 : Int) + 1), vp, .string rt]) (by simp [results, Tryd.results15, go_sem]) rfl (DONE.out _ _ _ _ _ _ H8.out.2.1.texts HPL.out (by omega) (by omega) (by omega) (by omega) HW.out H8.out.1.2.2.1)
  | true =>
    go_wp2_with fail
    refine (EN.out _ _ H8.out.1.2.1 (by omega)).mono ?_
    rintro e w9 ⟨y, rfl, hy0, hy1, hs9, hg9⟩
    have H9 : Hid (DrI w w9 B (.slice (some ⟨g, 0, none⟩) (n2 + 1) c3) L ∧ OwnT w9 BP vp P ∧ w.heap.size < BP) := ⟨H8.out.1.grow hg9 hs9, H8.out.2.1.grown hg9 H8.out.2.2, H8.out.2.2⟩
    clear hs9 hg9 H8
    have hy4 : y = 0 ∨ y = 1 ∨ y = 2 ∨ y = 3 := by omega
    clear hy0 hy1
    rcases hy4 with rfl | rfl | rfl | rfl
    · go_wp2_with fail
      refine (EX.out _ _ _ H9.out.1.2.1 H9.out.2.1.texts (by have := HPV.out.1; omega) HPV.out.2).mono ?_
      rintro e w10 ⟨v10, l10, rfl, ht10, hl10, hz10, hs10, hg10⟩
      have H10 : Hid (Texts w10 w10.heap.size v10 l10 ∧ l10.length ≤ 1000 ∧ Below w.heap.size w w10) := ⟨ht10, by have := HPV.out.1; omega, below_of_grown H9.out.1.2.2.1 hg10⟩
      clear ht10 hl10 hz10 hs10 hg10 H9
      go_wp2
      exact bodyPost_ret (v := .tuple #[.string leaf, .int .i64 m, .int .i64 ((n2 : Int) + 1), v10, .string rt]) (by simp [results, Tryd.results15, go_sem]) rfl (DONE.out _ _ _ _ _ _ H10.out.1 H10.out.2.1 (by omega) (by omega) (by omega) (by omega) HW.out H10.out.2.2)
    · go_wp2_with fail
      refine (EN.out _ _ H9.out.1.2.1 (by omega)).mono ?_
      rintro e w10 ⟨z, rfl, hz0, hz1, hs10, hg10⟩
      have H10 : Hid (OwnT w10 BP vp P ∧ Below w.heap.size w w10) := ⟨H9.out.2.1.grown hg10 H9.out.2.2, below_of_grown H9.out.1.2.2.1 hg10⟩
      have hz2 : z ≤ 2 := by omega
      clear hs10 hg10 H9 hz1
      go_wp2
      exact bodyPost_ret (v := .tuple #[.string leaf, .int .i64 ((m : Int) + z - 1), .int .i64 ((n2 : Int) + 1), vp, .string rt]) (by simp [results, Tryd.results15, go_sem]) rfl (DONE.out _ _ _ _ _ _ H10.out.1.texts HPL.out (by omega) (by omega) (by omega) (by omega) HW.out H10.out.2)
    · go_wp2_with fail
      refine (EE.out _ H9.out.1.2.1).mono ?_
      rintro e w10 ⟨z, rfl, hz0, hz1, hs10, hg10⟩
      have H10 : Hid (DrI w w10 B (.slice (some ⟨g, 0, none⟩) (n2 + 1) c3) L ∧ OwnT w10 BP vp P ∧ w.heap.size < BP) := ⟨H9.out.1.grow hg10 hs10, H9.out.2.1.grown hg10 H9.out.2.2, H9.out.2.2⟩
      clear hs10 hg10 H9
      have hq10 : w.heap.size < w10.heap.size := H10.out.1.2.1.lt
      have ha10 : Below w10.heap.size w10 (w10.alloc (.cells #[.int .i64 ((n2 : Int) + 1 + 1), .int .i64 (n2 : Int), .int .i64 z, .int .i64 4611686018427387904] 2)) := (Below.refl _ _).alloc (Nat.le_refl _) _
      have HA : Hid (Below w10.heap.size w10 (w10.alloc (.cells #[.int .i64 ((n2 : Int) + 1 + 1), .int .i64 (n2 : Int), .int .i64 z, .int .i64 4611686018427387904] 2))) := ha10
      clear ha10
      go_wp2_with fail
      refine (EN.out _ _ (H10.out.1.below HA.out).2.1 (by omega)).mono ?_
      rintro e w11 ⟨y, rfl, hy0, hy1, hs11, hg11⟩
      have c0 := edge_cell hg11 hq10 0
      have c1 := edge_cell hg11 hq10 1
      have c2 := edge_cell hg11 hq10 2
      have c3' := edge_cell hg11 hq10 3
      have H11 : Hid (OwnT w11 BP vp P ∧ Below w.heap.size w w11) := ⟨(H10.out.2.1.below HA.out (Nat.le_refl _)).grown hg11 H10.out.2.2, below_of_grown (H10.out.1.below HA.out).2.2.1 hg11⟩
      have hy4 : y = 0 ∨ y = 1 ∨ y = 2 ∨ y = 3 := by omega
      clear hs11 hg11 H10 hy0 hy1 HA
      rcases hy4 with rfl | rfl | rfl | rfl
      · go_wp2
        exact bodyPost_ret (v := .tuple #[.string leaf, .int .i64 m, .int .i64 ((n2 : Int) + 1 + 1), vp, .string rt]) (by simp [results, Tryd.results15, go_sem]) rfl (DONE.out _ _ _ _ _ _ H11.out.1.texts HPL.out (by omega) (by omega) (by omega) (by omega) HW.out H11.out.2)
      · go_wp2
        exact bodyPost_ret (v := .tuple #[.string leaf, .int .i64 m, .int .i64 ((n2 : Int)), vp, .string rt]) (by simp [results, Tryd.results15, go_sem]) rfl (DONE.out _ _ _ _ _ _ H11.out.1.texts HPL.out (by omega) (by omega) (by omega) (by omega) HW.out H11.out.2)
      · go_wp2
        exact bodyPost_ret (v := .tuple #[.string leaf, .int .i64 m, .int .i64 (z), vp, .string rt]) (by simp [results, Tryd.results15, go_sem]) rfl (DONE.out _ _ _ _ _ _ H11.out.1.texts HPL.out (by omega) (by omega) (by omega) (by omega) HW.out H11.out.2)
      · go_wp2
        exact bodyPost_ret (v := .tuple #[.string leaf, .int .i64 m, .int .i64 (4611686018427387904), vp, .string rt]) (by simp [results, Tryd.results15, go_sem]) rfl (DONE.out _ _ _ _ _ _ H11.out.1.texts HPL.out (by omega) (by omega) (by omega) (by omega) HW.out H11.out.2)
    · go_wp2_with fail
      refine (EZ.out _).mono ?_
      rintro e w10 ⟨d, rfl, hd, hb10⟩
      have H10 : Hid (OwnT w10 BP vp P ∧ d.size ≤ 32 ∧ Below w.heap.size w w10) := ⟨H9.out.2.1.below hb10 (Nat.le_refl _), hd, H9.out.1.2.2.1.trans (hb10.mono H9.out.1.2.2.1.size)⟩
      clear hd hb10 H9
      go_wp2
      exact bodyPost_ret (v := .tuple #[.string d, .int .i64 m, .int .i64 ((n2 : Int) + 1), vp, .string rt]) (by simp [results, Tryd.results15, go_sem]) rfl (DONE.out _ _ _ _ _ _ H10.out.1.texts HPL.out (by omega) (by omega) (by omega) (by omega) H10.out.2.1 H10.out.2.2)

/-- Two texts; of what was there nothing has turned. -/
def TwoAns (w : World) (e : Ending) (w' : World) : Prop := ∃ a b : ByteArray, e = .returned (.tuple #[.string a, .string b]) ∧ a.size ≤ 32 ∧ b.size ≤ 32 ∧ Below w.heap.size w w'
theorem digV_32 {t : ByteArray} (h : t.size ≤ 100) : (digV t).size = 32 := by
  unfold digV
  rw [if_neg (by omega)]
  exact shaB_size _
set_option maxHeartbeats 1000000 in
theorem drawNodeHash_any (a : Option Addr) (len cap : Nat) (w : World) (hc : Code w w.heap.size a len) (hl : len ≤ 1048576) :
    Calls Tryd.prog 18 #[.slice a len cap] w fun e w' => TwoAns w e w' := by
  have E0 : Hid (Calls Tryd.prog 33 #[.slice a len cap] w fun e w' => PtrAns w e w') := source_any a len cap w hc hl
  have EB : Hid (∀ w', Src w' w.heap.size → Calls Tryd.prog 56 #[.pointer (some ⟨w.heap.size, 0, none⟩), .int .i64 2] w' fun e w'' => StrAns 2 w.heap.size w' e w'') := fun w' h => bytes_any _ 2 w' h (by omega) (by omega)
  have EO : Hid (∀ w', Src w' w.heap.size → Calls Tryd.prog 51 #[.pointer (some ⟨w.heap.size, 0, none⟩), .int .i64 6] w' fun e w'' => BoolAns w.heap.size w' e w'') := fun w' h => one_any _ 6 w' h (by omega)
  have ED : Hid (∀ t w', t.size ≤ 100 → Calls Tryd.prog 54 #[.string t] w' fun e w'' => ∃ d : ByteArray, e = .returned (.string d) ∧ d.size = 32 ∧ Below w'.heap.size w' w'') := fun t w' ht => (specDigest_any t w' (by omega)).mono fun e w'' h => ⟨_, h.1, digV_32 ht, h.2⟩
  clear hc
  go_enter Tryd.func18, Tryd.ntmps18
  go_wp2_with fail
  refine E0.out.mono ?_
  rintro e w1 ⟨rfl, hs1, hb1⟩
  have H1 : Hid (Src w1 w.heap.size ∧ Below w.heap.size w w1) := ⟨hs1, hb1⟩
  clear hs1 hb1 E0
  go_wp2_with fail
  refine (EB.out _ H1.out.1).mono ?_
  rintro e w2 ⟨t2, rfl, hz2, hs2, hg2⟩
  have H2 : Hid (Src w2 w.heap.size ∧ Below w.heap.size w w2) := ⟨hs2, below_of_grown H1.out.2 hg2⟩
  clear hs2 hg2 H1
  go_wp2_with fail
  refine (ED.out _ _ (by omega)).mono ?_
  rintro e w3 ⟨d3, rfl, hd3, hb3⟩
  have H3 : Hid (Src w3 w.heap.size ∧ Below w.heap.size w w3) := ⟨H2.out.1.below hb3 H2.out.1.lt, H2.out.2.trans (hb3.mono H2.out.2.size)⟩
  clear hb3 H2
  go_wp2_with fail
  refine (EB.out _ H3.out.1).mono ?_
  rintro e w4 ⟨t4, rfl, hz4, hs4, hg4⟩
  have H4 : Hid (Src w4 w.heap.size ∧ Below w.heap.size w w4) := ⟨hs4, below_of_grown H3.out.2 hg4⟩
  clear hs4 hg4 H3
  go_wp2_with fail
  refine (ED.out _ _ (by omega)).mono ?_
  rintro e w5 ⟨d5, rfl, hd5, hb5⟩
  have H5 : Hid (Src w5 w.heap.size ∧ Below w.heap.size w w5) := ⟨H4.out.1.below hb5 H4.out.1.lt, H4.out.2.trans (hb5.mono H4.out.2.size)⟩
  clear hb5 H4
  go_wp2_with fail
  refine (EO.out _ H5.out.1).mono ?_
  rintro e w6 ⟨b, rfl, hs6, hg6⟩
  have H6 : Hid (Below w.heap.size w w6) := below_of_grown H5.out.2 hg6
  clear hs6 hg6 H5
  have hd3I : (d3.size : Int) = 32 := by omega
  cases b with
  | false =>
    go_wp2
    exact bodyPost_ret (v := .tuple #[.string d3, .string d5]) (by simp [results, Tryd.results18, go_sem]) rfl ⟨d3, d5, rfl, by omega, by omega, H6.out⟩
  | true =>
    have HX : Hid ((d3.extract 1 32).size ≤ 32) := by
      show _ ≤ _
      rw [ByteArray.size_extract]
      omega
    go_wp2
    exact bodyPost_ret (v := .tuple #[.string (d3.extract 1 32), .string d5]) (by simp [results, Tryd.results18, go_sem]) rfl ⟨_, d5, rfl, HX.out, by omega, H6.out⟩
end Go.Proofs.YtollfcjbcfnfdaaDoor

/-
  The draws of ranges.
-/
namespace Go.Proofs.YtollfcjbcfnfdaaDoor
open Go.RowKit Go.Lib
set_option linter.unusedVariables false
set_option linter.unusedSimpArgs false

theorem digV_small (t : ByteArray) : (digV t).size ≤ 32 := by
  unfold digV
  split
  · decide
  · rw [shaB_size]; omega
theorem addR_few : ∀ (l : List ByteArray) (n : Nat) (h : ByteArray), h.size ≤ 32 → (∀ x ∈ l, x.size ≤ 32) → (∀ x ∈ addR nodeB n l h, x.size ≤ 32) ∧ (addR nodeB n l h).length ≤ l.length + 1 := by
  intro l
  induction l with
  | nil =>
    intro n h hh _
    refine ⟨fun x hx => ?_, by simp [addR]⟩
    have : x = h := by simpa [addR] using hx
    rw [this]
    exact hh
  | cons y r ih =>
    intro n h hh hl
    rw [addR]
    split
    · have := ih (n / 2) (nodeB y h) (by rw [nodeB_size]; omega) (fun x hx => hl x (List.mem_cons_of_mem _ hx))
      exact ⟨this.1, by simp; omega⟩
    · refine ⟨fun x hx => ?_, by simp⟩
      rcases List.mem_cons.1 hx with rfl | hx
      · exact hh
      · exact hl x hx
theorem add_few (size : Int) {l : List ByteArray} (t : ByteArray) (hl : ∀ x ∈ l, x.size ≤ 32) : (∀ x ∈ addNodes size l t, x.size ≤ 32) ∧ (addNodes size l t).length ≤ l.length + 1 := by
  unfold addNodes
  split
  · exact ⟨fun x hx => by simp at hx, by simp⟩
  · split
    · unfold addB
      have h := addR_few l.reverse size.toNat (leafB t) (by rw [leafB_size]; omega) (fun x hx => hl x (List.mem_reverse.1 hx))
      exact ⟨fun x hx => h.1 x (List.mem_reverse.1 hx), by rw [List.length_reverse]; have := h.2; rw [List.length_reverse] at this; exact this⟩
    · exact ⟨hl, Nat.le_succ _⟩
set_option maxHeartbeats 400000 in
theorem ones_few (n : Int) (w : World) (hn : n ≤ 1000001) :
    Calls Tryd.prog 92 #[.int .i64 n] w fun e w' => (∃ c : Nat, e = .returned (.int .i64 c) ∧ c ≤ 20) ∧ w' = w := by
  go_enter Tryd.func92, Tryd.ntmps92
  go_wp2
  go_loop [0, 3] (fun x y => ∃ (k : Int) (c f : Nat), x = .int .i64 k ∧ y = .int .i64 c ∧ c + f ≤ 20 ∧ k < 2 ^ f ∧ k ≤ 1000001) (fun x _ => (RowKit.intOf x).toNat)
  case atStart => exact ⟨n, 0, 20, rfl, rfl, by omega, by omega, hn⟩
  case round =>
    obtain ⟨k, c, f, rfl, rfl, hcf, hkf, hk⟩ := hrel
    by_cases h0 : 0 < k
    · have HR : Hid (∃ f' : Nat, f = f' + 1 ∧ k / 2 < 2 ^ f') := by
        match f, hkf with
        | 0, hkf => simp at hkf; omega
        | f' + 1, hkf =>
          refine ⟨f', rfl, ?_⟩
          rw [Int.pow_succ] at hkf
          generalize (2 : Int) ^ f' = p at *
          omega
      clear hkf
      go_wp2
      obtain ⟨f', hf', hkf'⟩ := HR.out
      obtain ⟨r, hr⟩ : ∃ r : Nat, (r : Int) = k % 2 := ⟨(k % 2).toNat, by omega⟩
      go_round
      case rel => exact ⟨k / 2, c + r, f', by go_num, by go_num, by omega, hkf', by omega⟩
      case measure => simp [RowKit.intOf]; omega
    · clear hkf
      go_wp2
      go_ret
      exact ⟨⟨c, rfl, by omega⟩, rfl⟩

/-- A range, however it is; the source stays one, and nothing else has turned. -/
def RgDrawn (q : Nat) (w : World) (e : Ending) (w' : World) : Prop := ∃ size v l, e = .returned (.agg #[.int .i64 size, v]) ∧ Texts w' w'.heap.size v l ∧ l.length ≤ 100 ∧ (∀ t ∈ l, t.size ≤ 32) ∧ Src w' q ∧ w.grownBy w' (some q)
/-- In between: the answer's block as it was made, the range in block x behind it. -/
def RgIn (w : World) (q x : Nat) (sz : Int) (v : Value) (l : List ByteArray) (W : World) : Prop :=
  Src W q ∧ w.grownBy W (some q) ∧ W.heap[w.heap.size]? = some (.cells #[.int .i64 0, .slice none 0 0] 30 (0, 0)) ∧ W.heap[x]? = some (.cells #[.int .i64 sz, v] 30 (0, 0)) ∧ x = w.heap.size + 1 ∧ q < w.heap.size ∧ OwnT W (x + 1) v l ∧ ∀ t ∈ l, t.size ≤ 32
theorem RgIn.lt {w W : World} {q x : Nat} {sz : Int} {v : Value} {l : List ByteArray} (h : RgIn w q x sz v l W) : x < W.heap.size := (Array.getElem?_eq_some_iff.1 h.2.2.2.1).1
theorem RgIn.below {w W W' : World} {q x : Nat} {sz : Int} {v : Value} {l : List ByteArray} (h : RgIn w q x sz v l W) (hb : Below W.heap.size W W') : RgIn w q x sz v l W' := by
  have hx := h.lt
  obtain ⟨h1, h2, h3, h4, h5, h6, h7, h8⟩ := h
  exact ⟨h1.below hb h1.lt, grown_below h2 (hb.mono h2.size), (hb.block _ (by omega)).trans h3, (hb.block _ hx).trans h4, h5, h6, h7.below hb (Nat.le_refl _), h8⟩
theorem RgIn.grow {w W W' : World} {q x : Nat} {sz : Int} {v : Value} {l : List ByteArray} (h : RgIn w q x sz v l W) (hs : Src W' q) (hg : W.grownBy W' (some q)) : RgIn w q x sz v l W' := by
  have hx := h.lt
  obtain ⟨h1, h2, h3, h4, h5, h6, h7, h8⟩ := h
  exact ⟨hs, grown_trans h2 hg, (hg.block _ (by omega) (by simp; omega)).trans h3, (hg.block _ hx (by simp; omega)).trans h4, h5, h6, h7.grown hg (by omega), h8⟩
theorem RgIn.cells {w W : World} {q x : Nat} {sz : Int} {v : Value} {l : List ByteArray} (h : RgIn w q x sz v l W) :
    ((W.cell? ⟨w.heap.size, 0, none⟩ = some (.int .i64 0) ∧ W.cell? ⟨w.heap.size, 1, none⟩ = some (.slice none 0 0)) ∧ W.frozen? ⟨w.heap.size, 0, none⟩ = false ∧ W.frozen? ⟨w.heap.size, 1, none⟩ = false) ∧
    ((W.cell? ⟨x, 0, none⟩ = some (.int .i64 sz) ∧ W.cell? ⟨x, 1, none⟩ = some v) ∧ W.frozen? ⟨x, 0, none⟩ = false ∧ W.frozen? ⟨x, 1, none⟩ = false) ∧ ¬ w.heap.size = x ∧ ¬ x = w.heap.size := by
  have hx := h.lt
  obtain ⟨h1, h2, h3, h4, h5, h6, _⟩ := h
  exact ⟨two_cells' (Below.refl W.heap.size W) (by omega) h3, two_cells' (Below.refl W.heap.size W) hx h4, by omega, by omega⟩
theorem RgIn.sets {w W : World} {q x : Nat} {sz sz' : Int} {v v' : Value} {l l' : List ByteArray} (h : RgIn w q x sz v l W) (ho : OwnT W (x + 1) v' l') (hz : ∀ t ∈ l', t.size ≤ 32) : RgIn w q x sz' v' l' ((W.setCell ⟨x, 0, none⟩ (.int .i64 sz')).setCell ⟨x, 1, none⟩ v') := by
  have hx := h.lt
  obtain ⟨h1, h2, h3, h4, h5, h6, h7, h8⟩ := h
  have hb : Below x W ((W.setCell ⟨x, 0, none⟩ (.int .i64 sz')).setCell ⟨x, 1, none⟩ v') := ((Below.refl x W).setCell (p := ⟨x, 0, none⟩) (Nat.le_refl _) _).setCell (p := ⟨x, 1, none⟩) (Nat.le_refl _) _
  have g1 := heap_setCell_same W x 0 _ _ (.int .i64 sz') h4
  have g2 := heap_setCell_same _ x 1 _ _ v' g1
  exact ⟨h1.below hb (by omega), grown_below h2 (hb.mono (by omega)), (hb.block _ (by omega)).trans h3, g2, h5, h6, (ho.far (by omega)).far (by omega), hz⟩
theorem RgIn.setSize {w W : World} {q x : Nat} {sz sz' : Int} {v : Value} {l : List ByteArray} (h : RgIn w q x sz v l W) : RgIn w q x sz' v l (W.setCell ⟨x, 0, none⟩ (.int .i64 sz')) := by
  have hx := h.lt
  obtain ⟨h1, h2, h3, h4, h5, h6, h7, h8⟩ := h
  have hb : Below x W (W.setCell ⟨x, 0, none⟩ (.int .i64 sz')) := (Below.refl x W).setCell (p := ⟨x, 0, none⟩) (Nat.le_refl _) _
  exact ⟨h1.below hb (by omega), grown_below h2 (hb.mono (by omega)), (hb.block _ (by omega)).trans h3, heap_setCell_same W x 0 _ _ _ h4, h5, h6, h7.far (by omega), h8⟩
theorem RgIn.setNodes {w W : World} {q x : Nat} {sz : Int} {v v' : Value} {l l' : List ByteArray} (h : RgIn w q x sz v l W) (ho : OwnT W (x + 1) v' l') (hz : ∀ t ∈ l', t.size ≤ 32) : RgIn w q x sz v' l' (W.setCell ⟨x, 1, none⟩ v') := by
  have hx := h.lt
  obtain ⟨h1, h2, h3, h4, h5, h6, h7, h8⟩ := h
  have hb : Below x W (W.setCell ⟨x, 1, none⟩ v') := (Below.refl x W).setCell (p := ⟨x, 1, none⟩) (Nat.le_refl _) _
  exact ⟨h1.below hb (by omega), grown_below h2 (hb.mono (by omega)), (hb.block _ (by omega)).trans h3, heap_setCell_same W x 1 _ _ _ h4, h5, h6, ho.far (by omega), hz⟩
end Go.Proofs.YtollfcjbcfnfdaaDoor

/-
  The document's draw of a range.
-/
namespace Go.Proofs.YtollfcjbcfnfdaaDoor
open Go.RowKit Go.Lib
set_option linter.unusedVariables false
set_option linter.unusedSimpArgs false

theorem RgIn.apped {w wb w4 : World} {q x : Nat} {sz : Int} {v v' : Value} {l : List ByteArray} {d : ByteArray} (h : RgIn w q x sz v l wb) (hb : Below (x + 1) wb w4) (ho : OwnT w4 (x + 1) v' (l ++ [d])) (hd : d.size ≤ 32) : RgIn w q x sz v' (l ++ [d]) (w4.setCell ⟨x, 1, none⟩ v') := by
  obtain ⟨h1, h2, h3, h4, h5, h6, h7, h8⟩ := h
  have k4 := (hb.block _ (Nat.lt_succ_self _)).trans h4
  have hc : Below x wb (w4.setCell ⟨x, 1, none⟩ v') := (hb.mono (Nat.le_succ _)).setCell (p := ⟨x, 1, none⟩) (Nat.le_refl _) _
  refine ⟨h1.below hc (by omega), grown_below h2 (hc.mono (by omega)), (hc.block _ (by omega)).trans h3, heap_setCell_same w4 x 1 _ _ _ k4, h5, h6, ho.far (by omega), fun t ht => ?_⟩
  rcases List.mem_append.1 ht with h | h
  · exact h8 t h
  · rw [List.mem_singleton.1 h]; exact hd

set_option maxHeartbeats 4000000 in
set_option maxRecDepth 10000 in
theorem range_any (q : Nat) (w : World) (h : Src w q) :
    Calls Tryd.prog 55 #[.pointer (some ⟨q, 0, none⟩)] w fun e w' => RgDrawn q w e w' := by
  have EN : Hid (∀ m w', Src w' q → m ≤ 1000 → Calls Tryd.prog 35 #[.pointer (some ⟨q, 0, none⟩), .int .i64 m] w' fun e w'' => NumAns m q w' e w'') := fun m w' h hm => n_any q m w' h (by omega)
  have EO : Hid (∀ w', Src w' q → Calls Tryd.prog 51 #[.pointer (some ⟨q, 0, none⟩), .int .i64 15] w' fun e w'' => BoolAns q w' e w'') := fun w' h => one_any q 15 w' h (by omega)
  have EB : Hid (∀ m w', Src w' q → 0 ≤ m → m ≤ 1000 → Calls Tryd.prog 56 #[.pointer (some ⟨q, 0, none⟩), .int .i64 m] w' fun e w'' => StrAns m q w' e w'') := fun m w' h h0 h1 => bytes_any q m w' h h0 (by omega)
  have ED : Hid (∀ s w', Calls Tryd.prog 54 #[.string ⟨#[s]⟩] w' fun e w'' => DigAns w' e w'') := fun s w' => (specDigest_any ⟨#[s]⟩ w' (show (1 : Nat) ≤ 1048576 by omega)).mono (by
    rintro e w'' ⟨rfl, hb⟩
    exact ⟨_, rfl, digV_small _, hb⟩)
  have EA : Hid (∀ sz v l t X, Texts X X.heap.size v l → l.length ≤ 100 → Calls Tryd.prog 17 #[.agg #[.int .i64 sz, v], .string t] X fun e w' => RangeAns X (addSize sz l t) (addNodes sz l t) e w') := fun sz v l t X ht hl => specAdd_any sz v l t X ht (by omega)
  have E1 : Hid (∀ (n : Int) X, n ≤ 1000001 → Calls Tryd.prog 92 #[.int .i64 n] X fun e w' => (∃ c : Nat, e = .returned (.int .i64 c) ∧ c ≤ 20) ∧ w' = X) := fun n X hn => ones_few n X hn
  have hq := h.lt
  obtain ⟨W, hW⟩ : ∃ W, W = (w.alloc (.cells #[.int .i64 0, .slice none 0 0] 30)).alloc (.cells #[.int .i64 0, .slice none 0 0] 30) := ⟨_, rfl⟩
  have hbW : Below w.heap.size w W := by rw [hW]; exact ((Below.refl _ _).alloc (Nat.le_refl _) _).alloc (by simp) _
  have I0 : Hid (RgIn w q (w.heap.size + 1) 0 (.slice none 0 0) [] W) := ⟨h.below hbW hq, ⟨hbW.os, hbW.tape, hbW.output, hbW.size, fun k hk _ => hbW.block k hk⟩, by rw [hW]; exact heap_alloc2_old w _ _, by rw [hW]; exact heap_alloc2_new w _ _, rfl, hq, OwnT.nil _ _, fun t ht => by simp at ht⟩
  obtain ⟨s0, z0, z1, hsz⟩ := I0.out.1.size
  have HW : Hid (W = (w.alloc (.cells #[.int .i64 0, .slice none 0 0] 30)).alloc (.cells #[.int .i64 0, .slice none 0 0] 30)) := hW
  rw [hW] at hsz
  clear hW hbW h
  go_enter Tryd.func55, Tryd.ntmps55
  go_wp2_with fail
  rw [← HW.out]
  refine (EN.out _ _ I0.out.1 (by omega)).mono ?_
  rintro e w1 ⟨k, rfl, hk0, hk1, hs1, hg1⟩
  have I1 : Hid (RgIn w q (w.heap.size + 1) 0 (.slice none 0 0) [] w1) := I0.out.grow hs1 hg1
  have hk36 : k ≤ 36 := by omega
  clear hs1 hg1 I0 HW hsz hk1
  generalize hx : w.heap.size + 1 = x at *
  clear hx
  have FIN : Hid (∀ (X : World) (sz : Int) (av : Option Addr) (nv cv : Nat) (l : List ByteArray), RgIn w q x sz (.slice av nv cv) l X → l.length ≤ 100 → RgDrawn q w (.returned (.agg #[.int .i64 sz, .slice av nv cv])) ((X.setCell ⟨w.heap.size, 0, none⟩ (.int .i64 sz)).setCell ⟨w.heap.size, 1, none⟩ (.slice av nv cv))) := fun X sz av nv cv l hI hl => by
    have hb : Below w.heap.size X ((X.setCell ⟨w.heap.size, 0, none⟩ (.int .i64 sz)).setCell ⟨w.heap.size, 1, none⟩ (.slice av nv cv)) := ((Below.refl w.heap.size X).setCell (p := ⟨w.heap.size, 0, none⟩) (Nat.le_refl _) _).setCell (p := ⟨w.heap.size, 1, none⟩) (Nat.le_refl _) _
    obtain ⟨h1, h2, h3, h4, h5, h6, h7, h8⟩ := hI
    have o := (h7.far (i := 0) (u := .int .i64 sz) (show w.heap.size < x + 1 by omega)).far (i := 1) (u := .slice av nv cv) (show w.heap.size < x + 1 by omega)
    exact ⟨sz, _, l, rfl, o.texts, hl, h8, h1.below hb h6, grown_below h2 hb⟩
  go_wp2
  go_loopw [4] (fun i wr => ∃ (k sz : Int) (v : Value) (l : List ByteArray), i = .int .i64 k ∧ 0 ≤ k ∧ (l.length : Int) + k ≤ 40 ∧ RgIn w q x sz v l wr) (fun i _ => (RowKit.intOf i).toNat)
  case atStart => exact ⟨k, 0, _, [], rfl, hk0, by simp; omega, I1.out⟩
  case round =>
    clear I1 hk0 hk36
    obtain ⟨k, sz, v, l, rfl, hk0, hlk, hI⟩ := hrel
    obtain ⟨av, cv, rfl⟩ := hI.2.2.2.2.2.2.1.len
    obtain ⟨nv, hnv⟩ : ∃ nv, nv = l.length := ⟨_, rfl⟩
    rw [← hnv] at hI
    have I2 : Hid (RgIn w q x sz (.slice av nv cv) l wr) := hI
    clear hI hnv
    by_cases hk : 0 < k
    · have I2d : Hid (RgIn w q x sz (.slice av nv cv) l wr.drew) := I2.out.below (below_drew' (Below.refl _ _))
      obtain ⟨_, ⟨⟨x0, x1⟩, fx0, fx1⟩, _⟩ := I2.out.cells
      obtain ⟨_, ⟨⟨xd0, xd1⟩, fxd0, fxd1⟩, _⟩ := I2d.out.cells
      go_wp2_with fail
      go_region_with (first
          | (go_at_call 35; (with_reducible refine (EN.out _ _ ?_ ?_).mono ?_); (first | exact I2.out.1 | exact I2d.out.1); omega; rintro e wa ⟨y, rfl, hy0, hy1, hsa, hga⟩; have IA : Hid (RgIn w q x sz (.slice av nv cv) l wa) := (by first | exact I2.out.grow hsa hga | exact I2d.out.grow hsa hga); have hy2 : y ≤ 2 := (by omega); obtain ⟨_, ⟨⟨p0, p1⟩, fp0, fp1⟩, _⟩ := IA.out.cells; clear hsa hga hy1)
          | (go_at_call 56; (with_reducible refine (EB.out _ _ ?_ ?_ ?_).mono ?_); exact IA.out.1; exact hy0; omega; rintro e wb ⟨t, rfl, ht, hsb, hgb⟩; have IB : Hid (RgIn w q x sz (.slice av nv cv) l wb) := IA.out.grow hsb hgb; obtain ⟨_, ⟨⟨q0, q1⟩, fq0, fq1⟩, _⟩ := IB.out.cells; clear hsb hgb ht)
          | (go_at_call 17; (with_reducible refine (EA.out _ _ l _ _ ?_ ?_).mono ?_); exact IB.out.2.2.2.2.2.2.1.texts; omega; rintro e wd ⟨v', rfl, ho', hb'⟩; obtain ⟨a', c', rfl⟩ := ho'.len; have IC : Hid (RgIn w q x sz (.slice av nv cv) l wd ∧ OwnT wd (x + 1) (.slice a' (addNodes sz l t).length c') (addNodes sz l t)) := ⟨IB.out.below hb', ho'.lower (Nat.succ_le_of_lt IB.out.lt)⟩; obtain ⟨_, ⟨⟨r0, r1⟩, fr0, fr1⟩, _⟩ := IC.out.1.cells; clear ho' hb'))
      all_goals
        have HF := add_few sz t IC.out.1.2.2.2.2.2.2.2
        have IR : Hid (RgIn w q x (addSize sz l t) (.slice a' (addNodes sz l t).length c') (addNodes sz l t) ((wd.setCell ⟨x, 0, none⟩ (.int .i64 (addSize sz l t))).setCell ⟨x, 1, none⟩ (.slice a' (addNodes sz l t).length c'))) := IC.out.1.sets IC.out.2 HF.1
        have HL' : Hid ((addNodes sz l t).length ≤ l.length + 1) := HF.2
        clear HF
        go_wp2
        go_roundw
        case rel => exact ⟨k - 1, _, _, _, by go_num, by omega, by have := HL'.out; omega, IR.out⟩
        case measure => simp [RowKit.intOf]; omega
    · go_wp2_with fail
      refine (EO.out _ I2.out.1).mono ?_
      rintro e w2 ⟨b, rfl, hs2, hg2⟩
      have I3 : Hid (RgIn w q x sz (.slice av nv cv) l w2) := I2.out.grow hs2 hg2
      have hl40 : l.length ≤ 40 := by omega
      clear hs2 hg2 I2 hlk hk0 hk EO EB EA
      cases b with
      | false =>
        obtain ⟨⟨⟨o0, o1⟩, fo0, fo1⟩, ⟨⟨x0, x1⟩, fx0, fx1⟩, ne1, ne2⟩ := I3.out.cells
        have HF := FIN.out w2 sz av nv cv l I3.out (by omega)
        have HFF : Hid (RgDrawn q w _ _) := HF
        clear HF
        go_wp2
        exact bodyPost_ret (v := .agg #[.int .i64 sz, .slice av nv cv]) (by simp [results, Tryd.results55, go_sem, o0, o1, fo0, fo1, x0, x1, ne1, ne2]) rfl HFF.out
      | true =>
        go_wp2_with fail
        refine (EN.out _ _ I3.out.1 (by omega)).mono ?_
        rintro e w3 ⟨y, rfl, hy0, hy1, hs3, hg3⟩
        have I4 : Hid (RgIn w q x sz (.slice av nv cv) l w3) := I3.out.grow hs3 hg3
        have hy3 : y = 0 ∨ y = 1 ∨ y = 2 := by omega
        clear hs3 hg3 I3 hy0 hy1
        rcases hy3 with rfl | rfl | rfl
        · have ha : Below w3.heap.size w3 (w3.alloc (.cells #[.int .i64 (-1), .int .i64 999999, .int .i64 1000000, .int .i64 1000001] 2)) := (Below.refl _ _).alloc (Nat.le_refl _) _
          have HA4 : Hid (RgIn w q x sz (.slice av nv cv) l (w3.alloc (.cells #[.int .i64 (-1), .int .i64 999999, .int .i64 1000000, .int .i64 1000001] 2))) := I4.out.below ha
          have hq3 : q < w3.heap.size := I4.out.1.lt
          clear ha
          go_wp2_with fail
          refine (EN.out _ _ HA4.out.1 (by omega)).mono ?_
          rintro e w5 ⟨z, rfl, hz0, hz1, hs5, hg5⟩
          have k0 := edge_cell hg5 hq3 0
          have k1 := edge_cell hg5 hq3 1
          have k2 := edge_cell hg5 hq3 2
          have k3 := edge_cell hg5 hq3 3
          have I5 : Hid (RgIn w q x sz (.slice av nv cv) l w5) := HA4.out.grow hs5 hg5
          have hz4 : z = 0 ∨ z = 1 ∨ z = 2 ∨ z = 3 := by omega
          obtain ⟨_, ⟨⟨x0, x1⟩, fx0, fx1⟩, _⟩ := I5.out.cells
          have I6 : Hid (∀ s : Int, RgIn w q x s (.slice none 0 0) [] ((w5.setCell ⟨x, 0, none⟩ (.int .i64 s)).setCell ⟨x, 1, none⟩ (.slice none 0 0))) := fun s => I5.out.sets (OwnT.nil _ _) (fun t ht => by simp at ht)
          clear hs5 hg5 hz0 hz1 HA4
          rcases hz4 with rfl | rfl | rfl | rfl
          all_goals
            go_wp2_with fail
            refine (E1.out _ _ (by omega)).mono ?_
            rintro e w6 ⟨⟨c, rfl, hc⟩, hw6⟩
            have I7 : Hid (∃ s : Int, RgIn w q x s (.slice none 0 0) [] w6) := ⟨_, by rw [hw6]; exact I6.out _⟩
            clear hw6 k0 k1 k2 k3 x0 x1 fx0 fx1
            go_wp2
            go_loopw [5] (fun i wr => ∃ (k : Int) (s : Int) (v : Value) (l : List ByteArray), i = .int .i64 k ∧ 0 ≤ k ∧ (l.length : Int) + k ≤ 40 ∧ RgIn w q x s v l wr) (fun i _ => (RowKit.intOf i).toNat)
            case atStart =>
              obtain ⟨s, hs⟩ := I7.out
              exact ⟨c, s, _, [], rfl, by omega, by simp; omega, hs⟩
            case round =>
              clear I7 I6 I5 I4 hl40 hc
              obtain ⟨k, sz, v, l, rfl, hk0, hlk, hI⟩ := hrel
              obtain ⟨av, cv, rfl⟩ := hI.2.2.2.2.2.2.1.len
              obtain ⟨nv, hnv⟩ : ∃ nv, nv = l.length := ⟨_, rfl⟩
              rw [← hnv] at hI
              have J2 : Hid (RgIn w q x sz (.slice av nv cv) l wr) := hI
              clear hI hnv
              by_cases hk : 0 < k
              · have hl40 : l.length ≤ 40 := by omega
                have HA : Hid (RgIn w q x sz (.slice av nv cv) l wr) := J2.out
                have HAD : Hid (RgIn w q x sz (.slice av nv cv) l wr.drew) := HA.out.below (below_drew' (Below.refl _ _))
                have HX : Hid (∀ X, RgIn w q x sz (.slice av nv cv) l X → (X.cell? ⟨x, 1, none⟩ = some (.slice av nv cv) ∧ X.frozen? ⟨x, 1, none⟩ = false) ∧ ∀ o : Obj, (X.alloc o).cell? ⟨x, 1, none⟩ = some (.slice av nv cv) ∧ (X.alloc o).drew.cell? ⟨x, 1, none⟩ = some (.slice av nv cv)) := fun X h => ⟨⟨h.cells.2.1.1.2, h.cells.2.1.2.2⟩, fun o => ⟨(h.below ((Below.refl _ _).alloc (Nat.le_refl _) o)).cells.2.1.1.2, (h.below ((Below.refl _ _).alloc (Nat.le_refl _) o)).cells.2.1.1.2⟩⟩
                have FD : Hid (∀ X, RgIn w q x sz (.slice av nv cv) l X → Calls Tryd.prog 54 #[.string ⟨#[110]⟩] X fun e w' => ∃ d : ByteArray, e = .returned (.string d) ∧ d.size ≤ 32 ∧ RgIn w q x sz (.slice av nv cv) l w') := fun X h => (ED.out 110 X).mono fun e w' ⟨d, h1, h2, h3⟩ => ⟨d, h1, h2, h.below h3⟩
                have hll : l.length ≤ 1048576 := by omega
                obtain ⟨⟨c1, f1⟩, ca⟩ := HX.out _ HA.out
                go_wp2_with fail
                go_region_law (first
                  | (refine step_enter rfl 54 #[.string ⟨#[110]⟩] (FD.out _ ?_) ?_ ?_; (first | exact HA.out | exact HAD.out); go_simp; rintro e wb ⟨d, rfl, hd, hib⟩; refine ⟨_, rfl, ?_⟩; have HB2 : Hid (RgIn w q x sz (.slice av nv cv) l wb ∧ d.size ≤ 32) := ⟨hib, hd⟩; obtain ⟨⟨y1, y2⟩, y3⟩ := HX.out _ hib; clear hib hd)
                  | (refine step_app_text (w := wb) rfl (.tmp 50) (.tmp 52) rfl (x + 1) (.slice av nv cv) l d (by simp [Act.eval]) HB2.out.1.2.2.2.2.2.2.1 (by simp [Act.eval]) hll (Nat.succ_le_of_lt HB2.out.1.lt) ?_; intro v4 w4 hown4 hb4; obtain ⟨a4, cap4, rfl⟩ := hown4.len; have HS4 : Hid (RgIn w q x sz (.slice a4 (l ++ [d]).length cap4) (l ++ [d]) (w4.setCell ⟨x, 1, none⟩ (.slice a4 (l ++ [d]).length cap4))) := HB2.out.1.apped hb4 hown4 HB2.out.2; obtain ⟨⟨r0, r1⟩, r2, r3⟩ := two_cells' (Below.refl w4.heap.size w4) (show x < w4.heap.size from Nat.lt_of_lt_of_le HB2.out.1.lt hb4.size) ((hb4.block _ (Nat.lt_succ_self _)).trans HB2.out.1.2.2.2.1); clear hown4 hb4))
                all_goals
                  have hlen : (l ++ [d]).length = l.length + 1 := by simp
                  have H5 : Hid (RgIn w q x sz (.slice a4 (l.length + 1) cap4) (l ++ [d]) (w4.setCell ⟨x, 1, none⟩ (.slice a4 (l.length + 1) cap4))) := by
                    rw [← hlen]
                    exact HS4.out
                  generalize w4.setCell ⟨x, 1, none⟩ (.slice a4 (l.length + 1) cap4) = w7 at *
                  clear r0 r1 r2 r3
                  go_wp2
                  go_roundw
                  case rel => exact ⟨k - 1, sz, _, l ++ [d], by go_num, by omega, by rw [hlen]; omega, H5.out⟩
                  case measure => simp [RowKit.intOf]; omega
              · have hl40 : l.length ≤ 40 := by omega
                obtain ⟨⟨⟨o0, o1⟩, fo0, fo1⟩, ⟨⟨x0, x1⟩, fx0, fx1⟩, ne1, ne2⟩ := J2.out.cells
                have HF := FIN.out wr sz av nv cv l J2.out (by omega)
                have HFF : Hid (RgDrawn q w _ _) := HF
                clear HF
                go_wp2
                exact bodyPost_ret (v := .agg #[.int .i64 sz, .slice av nv cv]) (by simp [results, Tryd.results55, go_sem, o0, o1, fo0, fo1, x0, x1, ne1, ne2]) rfl HFF.out
        · clear EN E1
          have HA : Hid (RgIn w q x sz (.slice av nv cv) l w3) := I4.out
          have HAD : Hid (RgIn w q x sz (.slice av nv cv) l w3.drew) := HA.out.below (below_drew' (Below.refl _ _))
          have HX : Hid (∀ X, RgIn w q x sz (.slice av nv cv) l X → (X.cell? ⟨x, 1, none⟩ = some (.slice av nv cv) ∧ X.frozen? ⟨x, 1, none⟩ = false) ∧ ∀ o : Obj, (X.alloc o).cell? ⟨x, 1, none⟩ = some (.slice av nv cv) ∧ (X.alloc o).drew.cell? ⟨x, 1, none⟩ = some (.slice av nv cv)) := fun X h => ⟨⟨h.cells.2.1.1.2, h.cells.2.1.2.2⟩, fun o => ⟨(h.below ((Below.refl _ _).alloc (Nat.le_refl _) o)).cells.2.1.1.2, (h.below ((Below.refl _ _).alloc (Nat.le_refl _) o)).cells.2.1.1.2⟩⟩
          have FD : Hid (∀ X, RgIn w q x sz (.slice av nv cv) l X → Calls Tryd.prog 54 #[.string ⟨#[109]⟩] X fun e w' => ∃ d : ByteArray, e = .returned (.string d) ∧ d.size ≤ 32 ∧ RgIn w q x sz (.slice av nv cv) l w') := fun X h => (ED.out 109 X).mono fun e w' ⟨d, h1, h2, h3⟩ => ⟨d, h1, h2, h.below h3⟩
          have hll : l.length ≤ 1048576 := by omega
          obtain ⟨⟨c1, f1⟩, ca⟩ := HX.out _ HA.out
          go_wp2_with fail
          go_region_law (first
            | (refine step_enter rfl 54 #[.string ⟨#[109]⟩] (FD.out _ ?_) ?_ ?_; (first | exact HA.out | exact HAD.out); go_simp; rintro e wb ⟨d, rfl, hd, hib⟩; refine ⟨_, rfl, ?_⟩; have HB2 : Hid (RgIn w q x sz (.slice av nv cv) l wb ∧ d.size ≤ 32) := ⟨hib, hd⟩; obtain ⟨⟨y1, y2⟩, y3⟩ := HX.out _ hib; clear hib hd)
            | (refine step_app_text (w := wb) rfl (.tmp 58) (.tmp 60) rfl (x + 1) (.slice av nv cv) l d (by simp [Act.eval]) HB2.out.1.2.2.2.2.2.2.1 (by simp [Act.eval]) hll (Nat.succ_le_of_lt HB2.out.1.lt) ?_; intro v4 w4 hown4 hb4; obtain ⟨a4, cap4, rfl⟩ := hown4.len; have HS4 : Hid (RgIn w q x sz (.slice a4 (l ++ [d]).length cap4) (l ++ [d]) (w4.setCell ⟨x, 1, none⟩ (.slice a4 (l ++ [d]).length cap4))) := HB2.out.1.apped hb4 hown4 HB2.out.2; obtain ⟨⟨r0, r1⟩, r2, r3⟩ := two_cells' (Below.refl w4.heap.size w4) (show x < w4.heap.size from Nat.lt_of_lt_of_le HB2.out.1.lt hb4.size) ((hb4.block _ (Nat.lt_succ_self _)).trans HB2.out.1.2.2.2.1); clear hown4 hb4))
          all_goals
            have hlen : (l ++ [d]).length = l.length + 1 := by simp
            have H5 : Hid (RgIn w q x sz (.slice a4 (l.length + 1) cap4) (l ++ [d]) (w4.setCell ⟨x, 1, none⟩ (.slice a4 (l.length + 1) cap4))) := by
              rw [← hlen]
              exact HS4.out
            generalize w4.setCell ⟨x, 1, none⟩ (.slice a4 (l.length + 1) cap4) = w7 at *
            clear r0 r1 r2 r3
            obtain ⟨⟨⟨o0, o1⟩, fo0, fo1⟩, ⟨⟨x0, x1⟩, fx0, fx1⟩, ne1, ne2⟩ := H5.out.cells
            have HF := FIN.out w7 sz a4 (l.length + 1) cap4 (l ++ [d]) H5.out (by rw [hlen]; omega)
            have HFF : Hid (RgDrawn q w _ _) := HF
            clear HF
            go_wp2
            exact bodyPost_ret (v := .agg #[.int .i64 sz, .slice a4 (l.length + 1) cap4]) (by simp [results, Tryd.results55, go_sem, o0, o1, fo0, fo1, x0, x1, ne1, ne2]) rfl HFF.out
        · clear EN E1
          obtain ⟨_, ⟨⟨x0, x1⟩, fx0, fx1⟩, _⟩ := I4.out.cells
          have H5 : Hid (∀ s : Int, RgIn w q x s (.slice av nv cv) l (w3.setCell ⟨x, 0, none⟩ (.int .i64 s))) := fun s => I4.out.setSize
          have H6 : Hid (∀ s : Int, RgDrawn q w (.returned (.agg #[.int .i64 s, .slice av nv cv])) (((w3.setCell ⟨x, 0, none⟩ (.int .i64 s)).setCell ⟨w.heap.size, 0, none⟩ (.int .i64 s)).setCell ⟨w.heap.size, 1, none⟩ (.slice av nv cv))) := fun s => FIN.out _ s av nv cv l (H5.out s) (by omega)
          obtain ⟨⟨⟨o0, o1⟩, fo0, fo1⟩, _, ne1, ne2⟩ := I4.out.cells
          go_wp2
          exact bodyPost_ret (v := .agg #[.int .i64 (wrap64 (sz + 1)), .slice av nv cv]) (by simp [results, Tryd.results55, go_sem, o0, o1, fo0, fo1, x0, x1, fx0, ne1, ne2]) rfl (H6.out _)
end Go.Proofs.YtollfcjbcfnfdaaDoor

/-
  The draw of a range and a text.
-/
namespace Go.Proofs.YtollfcjbcfnfdaaDoor
open Go.RowKit Go.Lib
set_option linter.unusedVariables false
set_option linter.unusedSimpArgs false

/-- What is drawn for RangeAdd; of what was there nothing has turned. -/
def RaDrawn (w : World) (e : Ending) (w' : World) : Prop := ∃ size v l t, e = .returned (.tuple #[.agg #[.int .i64 size, v], .string t]) ∧ Texts w' w'.heap.size v l ∧ l.length ≤ 100 ∧ (∀ x ∈ l, x.size ≤ 32) ∧ t.size ≤ 101 ∧ Below w.heap.size w w'
theorem Texts.past {w w' : World} {q : Nat} (hs : Src w q) (hg : w.grownBy w' (some q)) {B : Nat} {v : Value} {l : List ByteArray} (h : Texts w B v l) : Texts w' B v l := by
  obtain ⟨ad, cap, hv, h | ⟨b', off, e1, e2, e3⟩, hcap⟩ := h
  · exact ⟨ad, cap, hv, .inl h, hcap⟩
  · refine ⟨ad, cap, hv, .inr ⟨b', off, e1, e2, fun j hj => hg.cell (e3 j hj) ?_⟩, hcap⟩
    obtain ⟨a, len, cap, k, mix, sz, hq, _⟩ := hs
    intro e
    have e' : b' = q := by simpa using e
    subst e'
    have := e3 j hj
    simp only [World.cell?, hq] at this
    match off + j, this with
    | 0, this => simp at this
    | 1, this => simp at this
    | 2, this => simp at this
    | 3, this => simp at this
    | n + 4, this => simp at this
theorem Texts.beside {w : World} {g : Nat} {a b : Value} {t : TypeId} {fr : Nat × Nat} (hg : w.heap[g]? = some (.cells #[a, b] t fr)) (ha : ∀ s, a ≠ .string s) (hb : ∀ s, b ≠ .string s) {B : Nat} {v : Value} {l : List ByteArray} (h : Texts w B v l) (i : Nat) (u : Value) : Texts (w.setCell ⟨g, i, none⟩ u) B v l := by
  obtain ⟨ad, cap, hv, h | ⟨b', off, e1, e2, e3⟩, hcap⟩ := h
  · exact ⟨ad, cap, hv, .inl h, hcap⟩
  · refine ⟨ad, cap, hv, .inr ⟨b', off, e1, e2, fun j hj => ?_⟩, hcap⟩
    have hne : g ≠ b' := by
      rintro rfl
      have := e3 j hj
      simp only [World.cell?, hg] at this
      match off + j, this with
      | 0, this => exact ha _ (by simpa using this)
      | 1, this => exact hb _ (by simpa using this)
      | n + 2, this => simp at this
    rw [World.cell?_setCell_other w _ _ u (fun e => hne (congrArg Addr.block e))]
    exact e3 j hj
theorem RaDrawn.below {w W W' : World} {e : Ending} (h : RaDrawn w e W) (hb : Below W.heap.size W W') : RaDrawn w e W' := by
  obtain ⟨size, v, l, t, h1, h2, h3, h4, h5, h6⟩ := h
  exact ⟨size, v, l, t, h1, (h2.below hb).up hb.size, h3, h4, h5, h6.trans (hb.mono h6.size)⟩
/-- In between: the answer's block as it was made, the source in block q, the range in block x. -/
def RaIn (w : World) (q x : Nat) (c : Array Value) (v1 : Value) (l : List ByteArray) (W : World) : Prop :=
  Src W q ∧ Below w.heap.size w W ∧ W.heap[w.heap.size]? = some (.cells #[.int .i64 0, .slice none 0 0] 30 (0, 0)) ∧ W.heap[x]? = some (.cells c 30 (0, 0)) ∧ w.heap.size < q ∧ q < x ∧ Texts W W.heap.size v1 l
theorem RaIn.lt {w W : World} {q x : Nat} {c : Array Value} {v1 : Value} {l : List ByteArray} (h : RaIn w q x c v1 l W) : x < W.heap.size := (Array.getElem?_eq_some_iff.1 h.2.2.2.1).1
theorem RaIn.below {w W W' : World} {q x : Nat} {c : Array Value} {v1 : Value} {l : List ByteArray} (h : RaIn w q x c v1 l W) (hb : Below W.heap.size W W') : RaIn w q x c v1 l W' := by
  have hx := h.lt
  obtain ⟨h1, h2, h3, h4, h5, h6, h7⟩ := h
  exact ⟨h1.below hb h1.lt, h2.trans (hb.mono h2.size), (hb.block _ (by omega)).trans h3, (hb.block _ hx).trans h4, h5, h6, (h7.below hb).up hb.size⟩
theorem RaIn.grow {w W W' : World} {q x : Nat} {c : Array Value} {v1 : Value} {l : List ByteArray} (h : RaIn w q x c v1 l W) (hs : Src W' q) (hg : W.grownBy W' (some q)) : RaIn w q x c v1 l W' := by
  have hx := h.lt
  obtain ⟨h1, h2, h3, h4, h5, h6, h7⟩ := h
  exact ⟨hs, h2.grown hg h2.size (fun k e => by simp at e; omega), (hg.block _ (by omega) (by simp; omega)).trans h3, (hg.block _ hx (by simp; omega)).trans h4, h5, h6, (h7.past h1 hg).up hg.size⟩
theorem RaIn.cells {w W : World} {q x : Nat} {a b : Value} {v1 : Value} {l : List ByteArray} (h : RaIn w q x #[a, b] v1 l W) :
    ((W.cell? ⟨w.heap.size, 0, none⟩ = some (.int .i64 0) ∧ W.cell? ⟨w.heap.size, 1, none⟩ = some (.slice none 0 0)) ∧ W.frozen? ⟨w.heap.size, 0, none⟩ = false ∧ W.frozen? ⟨w.heap.size, 1, none⟩ = false) ∧
    (W.cell? ⟨x, 0, none⟩ = some a ∧ W.cell? ⟨x, 1, none⟩ = some b) ∧ ¬ w.heap.size = x ∧ ¬ x = w.heap.size := by
  have hx := h.lt
  obtain ⟨h1, h2, h3, h4, h5, h6, _⟩ := h
  exact ⟨two_cells' (Below.refl W.heap.size W) (by omega) h3, (two_cells' (Below.refl W.heap.size W) hx h4).1, by omega, by omega⟩
theorem int_no2 {k : IntKind} {n : Int} : ∀ s, Value.int k n ≠ .string s := fun s e => by cases e
theorem slice_no2 {a : Option Addr} {n c : Nat} : ∀ s, Value.slice a n c ≠ .string s := fun s e => by cases e

set_option maxHeartbeats 4000000 in
set_option maxRecDepth 10000 in
theorem drawRangeAdd_any (a : Option Addr) (len cap : Nat) (w : World) (hc : Code w w.heap.size a len) (hl : len ≤ 1048576) :
    Calls Tryd.prog 16 #[.slice a len cap] w fun e w' => RaDrawn w e w' := by
  obtain ⟨W, hW⟩ : ∃ W, W = w.alloc (.cells #[.int .i64 0, .slice none 0 0] 30) := ⟨_, rfl⟩
  have hbW : Below w.heap.size w W := by rw [hW]; exact (Below.refl _ _).alloc (Nat.le_refl _) _
  have hzW : W.heap.size = w.heap.size + 1 := by rw [hW]; simp
  have E0 : Hid (Calls Tryd.prog 33 #[.slice a len cap] W fun e w' => PtrAns W e w') := source_any a len cap W (by
    rcases hc with h | ⟨b, off, h1, h2, h3⟩
    · exact .inl h
    · exact .inr ⟨b, off, h1, by omega, fun i hi => by
        obtain ⟨c, y0, y1, y2⟩ := h3 i hi
        exact ⟨c, y0, y1, (hbW.cell (p := ⟨b, off + i, none⟩) h2).trans y2⟩⟩) hl
  have H0 : Hid (Below w.heap.size w W ∧ W.heap[w.heap.size]? = some (.cells #[.int .i64 0, .slice none 0 0] 30 (0, 0)) ∧ W.heap.size = w.heap.size + 1) := ⟨hbW, by rw [hW]; exact heap_alloc_new w _, hzW⟩
  have HW : Hid (W = w.alloc (.cells #[.int .i64 0, .slice none 0 0] 30)) := hW
  generalize hq : W.heap.size = q at *
  have ES : Hid (∀ w', Src w' q → Calls Tryd.prog 55 #[.pointer (some ⟨q, 0, none⟩)] w' fun e w'' => RgDrawn q w' e w'') := fun w' h => range_any _ w' h
  have EO : Hid (∀ w', Src w' q → Calls Tryd.prog 51 #[.pointer (some ⟨q, 0, none⟩), .int .i64 12] w' fun e w'' => BoolAns q w' e w'') := fun w' h => one_any q 12 w' h (by omega)
  have EN : Hid (∀ m w', Src w' q → m ≤ 1000 → Calls Tryd.prog 35 #[.pointer (some ⟨q, 0, none⟩), .int .i64 m] w' fun e w'' => NumAns m q w' e w'') := fun m w' h hm => n_any q m w' h (by omega)
  have EB : Hid (∀ m w', Src w' q → 0 ≤ m → m ≤ 1000 → Calls Tryd.prog 56 #[.pointer (some ⟨q, 0, none⟩), .int .i64 m] w' fun e w'' => StrAns m q w' e w'') := fun m w' h h0 h1 => bytes_any q m w' h h0 (by omega)
  clear hc hW hbW hzW
  go_enter Tryd.func16, Tryd.ntmps16
  go_wp2_with fail
  rw [← HW.out]
  refine E0.out.mono ?_
  rintro e w1 ⟨rfl, hs1, hb1⟩
  rw [hq] at hs1 hb1 ⊢
  have hqw : w.heap.size < q := by have := H0.out.2.2; omega
  have H1 : Hid (Src w1 q ∧ Below w.heap.size w w1 ∧ w1.heap[w.heap.size]? = some (.cells #[.int .i64 0, .slice none 0 0] 30 (0, 0))) := ⟨hs1, H0.out.1.trans (hb1.mono (Nat.le_of_lt hqw)), (hb1.block _ hqw).trans H0.out.2.1⟩
  clear hs1 hb1 E0 HW H0 hq
  go_wp2_with fail
  refine (ES.out _ H1.out.1).mono ?_
  rintro e w2 ⟨sz, ve, l, rfl, ht1, hl1, hz1, hs2, hg2⟩
  obtain ⟨a1, c1, rfl, hy1⟩ := id ht1
  clear hy1
  obtain ⟨W2, hW2⟩ : ∃ W, W = w2.alloc (.cells #[.int .i64 sz, .slice a1 l.length c1] 30) := ⟨_, rfl⟩
  have hal : Below w2.heap.size w2 W2 := by rw [hW2]; exact (Below.refl _ _).alloc (Nat.le_refl _) _
  have hb02 : Below w.heap.size w w2 := H1.out.2.1.grown hg2 H1.out.2.1.size (fun k e => by simp at e; omega)
  have hw1 : w.heap.size < w1.heap.size := (Array.getElem?_eq_some_iff.1 H1.out.2.2).1
  have V2 : Hid (RaIn w q w2.heap.size #[.int .i64 sz, .slice a1 l.length c1] (.slice a1 l.length c1) l W2) := ⟨hs2.below hal hs2.lt, hb02.trans (hal.mono hb02.size), (hal.block _ (Nat.lt_of_lt_of_le hw1 hg2.size)).trans ((hg2.block _ hw1 (by simp; omega)).trans H1.out.2.2), by rw [hW2]; exact heap_alloc_new w2 _, hqw, hs2.lt, (ht1.below hal).up hal.size⟩
  have HW2 : Hid (W2 = w2.alloc (.cells #[.int .i64 sz, .slice a1 l.length c1] 30)) := hW2
  have HL : Hid (l.length ≤ 100 ∧ ∀ x ∈ l, x.size ≤ 32) := ⟨hl1, hz1⟩
  clear ht1 hl1 hz1 hs2 hg2 hal hb02 hw1 hW2 H1 ES
  generalize hn1 : l.length = n1 at *
  have HN : Hid (l.length = n1) := hn1
  clear hn1
  go_wp2_with fail
  rw [← HW2.out]
  clear HW2
  refine (EO.out _ V2.out.1).mono ?_
  rintro e w5 ⟨b, rfl, hs5, hg5⟩
  have V5 : Hid (RaIn w q w2.heap.size #[.int .i64 sz, .slice a1 n1 c1] (.slice a1 n1 c1) l w5) := V2.out.grow hs5 hg5
  clear hs5 hg5 V2 EO
  generalize hx : w2.heap.size = x at *
  clear hx
  have V5d : Hid (RaIn w q x #[.int .i64 sz, .slice a1 n1 c1] (.slice a1 n1 c1) l w5.drew) := V5.out.below (below_drew' (Below.refl _ _))
  have HC : Hid (∀ X, RaIn w q x #[.int .i64 sz, .slice a1 n1 c1] (.slice a1 n1 c1) l X → X.cell? ⟨x, 0, none⟩ = some (.int .i64 sz) ∧ X.cell? ⟨x, 1, none⟩ = some (.slice a1 n1 c1)) := fun X h => h.cells.2.1
  have FIN : Hid (∀ (t : ByteArray) (X : World), RaIn w q x #[.int .i64 sz, .slice a1 n1 c1] (.slice a1 n1 c1) l X → t.size ≤ 101 → RaDrawn w (.returned (.tuple #[.agg #[.int .i64 sz, .slice a1 n1 c1], .string t])) ((X.setCell ⟨w.heap.size, 0, none⟩ (.int .i64 sz)).setCell ⟨w.heap.size, 1, none⟩ (.slice a1 n1 c1))) := fun t X hI ht => by
    have g0 := hI.2.2.1
    have g1 := heap_setCell_same X w.heap.size 0 _ _ (.int .i64 sz) g0
    have p1 := (hI.2.2.2.2.2.2.beside g0 int_no2 slice_no2 0 (.int .i64 sz)).beside g1 int_no2 slice_no2 1 (.slice a1 n1 c1)
    have hb : Below w.heap.size X ((X.setCell ⟨w.heap.size, 0, none⟩ (.int .i64 sz)).setCell ⟨w.heap.size, 1, none⟩ (.slice a1 n1 c1)) := ((Below.refl w.heap.size X).setCell (p := ⟨w.heap.size, 0, none⟩) (Nat.le_refl _) _).setCell (p := ⟨w.heap.size, 1, none⟩) (Nat.le_refl _) _
    exact ⟨sz, _, l, t, rfl, p1.up hb.size, by have := HL.out.1; have := HN.out; omega, HL.out.2, ht, hI.2.1.trans hb⟩
  obtain ⟨_, ⟨x0, x1⟩, nn1, nn2⟩ := V5.out.cells
  cases b with
  | false =>
    go_wp2_with fail
    go_region_held3 (fun X => X.cell? ⟨x, 0, none⟩ = some (.int .i64 sz) ∧ X.cell? ⟨x, 1, none⟩ = some (.slice a1 n1 c1)) ((first | exact HC.out _ V5.out | exact HC.out _ V5d.out | exact HC.out _ V6.out | exact HC.out _ V7.out | go_keep))
      (first
        | (go_at_call 35; (with_reducible refine (EN.out _ _ ?_ ?_).mono ?_); (first | exact V5.out.1 | exact V5d.out.1); omega; rintro e w6 ⟨y, rfl, hy0, hy1, hs6, hg6⟩; have V6 : Hid (RaIn w q x #[.int .i64 sz, .slice a1 n1 c1] (.slice a1 n1 c1) l w6) := (by first | exact V5.out.grow hs6 hg6 | exact V5d.out.grow hs6 hg6); obtain ⟨_, ⟨y2, y3⟩, _⟩ := V6.out.cells; have hy4 : y ≤ 3 := (by omega); clear hs6 hg6 hy1)
        | (go_at_call 56; (with_reducible refine (EB.out _ _ ?_ ?_ ?_).mono ?_); exact V6.out.1; exact hy0; omega; rintro e w7 ⟨t, rfl, ht, hs7, hg7⟩; have V7 : Hid (RaIn w q x #[.int .i64 sz, .slice a1 n1 c1] (.slice a1 n1 c1) l w7) := V6.out.grow hs7 hg7; obtain ⟨⟨⟨r0, r1⟩, fr0, fr1⟩, ⟨u0, u1⟩, _⟩ := V7.out.cells; clear hs7 hg7))
    all_goals
      go_wp2
      exact bodyPost_ret (v := .tuple #[.agg #[.int .i64 sz, .slice a1 n1 c1], .string t]) (by simp [results, Tryd.results16, go_sem, r0, r1, fr0, fr1]) rfl (FIN.out t _ V7.out (by omega))
  | true =>
    obtain ⟨⟨⟨xd2, xd3⟩, fxd2, fxd3⟩, ⟨xd0, xd1⟩, _⟩ := V5d.out.cells
    go_wp2_with fail
    go_region_with
      ((go_at_call 35; (with_reducible refine (EN.out _ _ ?_ ?_).mono ?_); (first | exact V5.out.1 | exact V5d.out.1); omega; rintro e w6 ⟨y, rfl, hy0, hy1, hs6, hg6⟩; have V6 : Hid (RaIn w q x #[.int .i64 sz, .slice a1 n1 c1] (.slice a1 n1 c1) l w6) := (by first | exact V5.out.grow hs6 hg6 | exact V5d.out.grow hs6 hg6); obtain ⟨_, ⟨y2, y3⟩, _⟩ := V6.out.cells; obtain ⟨m, rfl⟩ := Int.eq_ofNat_of_zero_le hy0; have hm : m ≤ 1 := (by omega); have hwr : IntKind.i64.wrap (100 + (m : Int)) = 100 + (m : Int) := (by rw [IntKind.wrap_i64]; omega); obtain ⟨Z, mk, cv⟩ := zeros_row (100 + m) (by omega); have mk6 : ∀ w : World, (Instr.makeSlice 22 (.int .i64 (100 + (m : Int))) (.int .i64 (100 + (m : Int)))).run Tryd.prog w = .ok (.slice (some ⟨w.heap.size, 0, none⟩) (100 + m) (100 + m)) (w.alloc Z) := (fun w => (by have := mk w; rw [show ((100 + m : Nat) : Int) = 100 + (m : Int) from (by omega)] at this; exact this)); have cv6 := cv (w6.alloc Z) w6.heap.size (heap_alloc_new w6 Z); have hz6 : w.heap.size < w6.heap.size := Nat.lt_trans V6.out.2.2.2.2.1 V6.out.1.lt; have cv7 := cv (((w6.alloc Z).setCell ⟨w.heap.size, 0, none⟩ (.int .i64 sz)).setCell ⟨w.heap.size, 1, none⟩ (.slice a1 n1 c1)) w6.heap.size (by rw [heap_setCell_other _ _ _ _ (by simp; omega), heap_setCell_other _ _ _ _ (by simp; omega)]; exact heap_alloc_new w6 Z); have hz8 : ((w6.setCell ⟨w.heap.size, 0, none⟩ (.int .i64 sz)).setCell ⟨w.heap.size, 1, none⟩ (.slice a1 n1 c1)).heap.size = w6.heap.size := (by simp [World.setCell]); have cv8 := cv (((w6.setCell ⟨w.heap.size, 0, none⟩ (.int .i64 sz)).setCell ⟨w.heap.size, 1, none⟩ (.slice a1 n1 c1)).alloc Z) w6.heap.size (by have := heap_alloc_new ((w6.setCell ⟨w.heap.size, 0, none⟩ (.int .i64 sz)).setCell ⟨w.heap.size, 1, none⟩ (.slice a1 n1 c1)) Z; rw [hz8] at this; exact this); obtain ⟨⟨⟨s0, s1⟩, fs0, fs1⟩, _, _⟩ := V6.out.cells; have V7 : Hid (RaIn w q x #[.int .i64 sz, .slice a1 n1 c1] (.slice a1 n1 c1) l (w6.alloc Z)) := V6.out.below ((Below.refl _ _).alloc (Nat.le_refl _) _); have HT : Hid ((⟨(List.replicate (100 + m) 0).toArray⟩ : ByteArray).size ≤ 101) := (by show _ ≤ _; simp [ByteArray.size]; omega); generalize (⟨(List.replicate (100 + m) 0).toArray⟩ : ByteArray) = T at *; obtain ⟨⟨⟨r0, r1⟩, fr0, fr1⟩, ⟨u0, u1⟩, _⟩ := V7.out.cells; clear hs6 hg6 hy1 mk cv))
    all_goals
      go_wp2
      refine bodyPost_ret (v := .tuple #[.agg #[.int .i64 sz, .slice a1 n1 c1], .string T]) (by simp [results, Tryd.results16, go_sem, r0, r1, fr0, fr1, s0, s1, fs0, fs1, hz6]) rfl ?_
      first | exact FIN.out T _ V7.out HT.out | exact (FIN.out T _ V6.out HT.out).below ((Below.refl _ _).alloc (Nat.le_refl _) _)
end Go.Proofs.YtollfcjbcfnfdaaDoor
