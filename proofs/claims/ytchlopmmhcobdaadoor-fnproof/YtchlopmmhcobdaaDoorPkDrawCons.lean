/-
  The draws of a proof's arguments.
-/
import Derived.Test.YtchlopmmhcobdaaDoorPkDrawSome
import Derived.Test.YtchlopmmhcobdaaDoorPkSpecTree
import Derived.Test.YtchlopmmhcobdaaDoorPkRight
import Derived.Test.YtchlopmmhcobdaaDoorPkSpecAll
namespace Go.Proofs.YtchlopmmhcobdaaDoor
open Go.RowKit Go.Lib
set_option linter.unusedVariables false
set_option linter.unusedSimpArgs false

theorem Code.after {w w' : World} {a : Option Addr} {len : Nat} (h : Code w w.heap.size a len) (hb : Below w.heap.size w w') : Code w' w'.heap.size a len := by
  rcases h with h | ⟨b, off, ha, hbq, hc⟩
  · exact .inl h
  · refine .inr ⟨b, off, ha, Nat.lt_of_lt_of_le hbq hb.size, fun i hi => ?_⟩
    obtain ⟨c, x0, x1, x2⟩ := hc i hi
    exact ⟨c, x0, x1, (hb.cell (p := ⟨b, off + i, none⟩) hbq).trans x2⟩
theorem drawProofOf_any (a : Option Addr) (len cap : Nat) (w : World) (hc : Code w w.heap.size a len) (hl : len ≤ 1048576) :
    Calls Tryd.prog 42 #[.slice a len cap] w fun e w' => EntAns w e w' := by
  have E : Hid (Calls Tryd.prog 25 #[.slice a len cap] w fun e w' => EntAns w e w') := drawPathOf_any a len cap w hc hl
  clear hc
  go_enter Tryd.func42, Tryd.ntmps42
  go_wp2_with fail
  refine E.out.mono ?_
  rintro e w1 ⟨v, l, i, rfl, h⟩
  have H : Hid (OwnT w1 w.heap.size v l ∧ l.length ≤ 31 ∧ (∀ t ∈ l, t.size ≤ 101) ∧ -1 ≤ i ∧ i ≤ 32 ∧ Below w.heap.size w w1) := h
  clear h
  go_wp2
  go_ret2
  exact ⟨v, l, i, rfl, H.out⟩

def ConsAns (w : World) (e : Ending) (w' : World) : Prop := ∃ (m n : Int) (v : Value) (l : List ByteArray) (was rt : ByteArray), e = .returned (.tuple #[.int .i64 m, .int .i64 n, v, .string was, .string rt]) ∧ Texts w' w'.heap.size v l ∧ l.length ≤ 1000 ∧
  (-9223372036854775808 ≤ m ∧ m ≤ 9223372036854775807 ∧ -9223372036854775808 ≤ n ∧ n ≤ 9223372036854775807) ∧ was.size ≤ 32 ∧ rt.size ≤ 32 ∧ Below w.heap.size w w'
theorem treeV_size (l : List ByteArray) : (treeV l).size ≤ 32 := by
  unfold treeV
  split
  · rw [treeB_size]; omega
  · decide
theorem digV_size (t : ByteArray) : (digV t).size ≤ 32 := by
  unfold digV
  split
  · decide
  · rw [shaB_size]; omega
theorem proofV_told {l : List ByteArray} (hl : l.length ≤ 64) (m : Nat) (h1 : 1 ≤ m) (hm : m ≤ l.length) : (proofV l m).length ≤ 7 ∧ ∀ t ∈ proofV l m, t.size = 32 := by
  unfold proofV
  split
  · obtain ⟨h2, h3⟩ := proofB_short l.length l m true 6 rfl hm h1 (by omega)
    rw [Int.toNat_natCast]
    refine ⟨h2, fun t ht => ?_⟩
    obtain ⟨j, hj, rfl⟩ := List.getElem_of_mem ht
    exact wideB_at h3 hj
  · exact ⟨by simp, fun t ht => by simp at ht⟩
theorem cellI {w w1 : World} {q : Nat} {cs : Array Value} {t : TypeId} (hg : (w.alloc (.cells cs t)).grownBy w1 (some q)) (hq : q < w.heap.size) (i : Nat) : w1.cell? ⟨w.heap.size, i, none⟩ = cs[i]? := edge_cell hg hq i

/-- In between: the entries in a row of the draw's own, the source, the proof. -/
def DrC (w W : World) (B : Nat) (v : Value) (l : List ByteArray) : Prop := OwnT W B v l ∧ Src W w.heap.size ∧ Below w.heap.size w W ∧ w.heap.size < B
theorem DrC.below {w W W' : World} {B : Nat} {v : Value} {l : List ByteArray} (h : DrC w W B v l) (hb : Below W.heap.size W W') : DrC w W' B v l :=
  ⟨h.1.below hb (Nat.le_refl _), h.2.1.below hb h.2.1.lt, h.2.2.1.trans (hb.mono h.2.2.1.size), h.2.2.2⟩
theorem DrC.grow {w W W' : World} {B : Nat} {v : Value} {l : List ByteArray} (h : DrC w W B v l) (hg : W.grownBy W' (some w.heap.size)) (hs : Src W' w.heap.size) : DrC w W' B v l :=
  ⟨h.1.grown hg h.2.2.2, hs, below_of_grown h.2.2.1 hg, h.2.2.2⟩

set_option maxHeartbeats 4000000 in
set_option maxRecDepth 10000 in
theorem drawConsistent_any (a : Option Addr) (len cap : Nat) (w : World) (hc : Code w w.heap.size a len) (hl : len ≤ 1048576) :
    Calls Tryd.prog 46 #[.slice a len cap] w fun e w' => ConsAns w e w' := by
  have E0 : Hid (Calls Tryd.prog 59 #[.slice a len cap] w fun e w' => PtrAns w e w') := source_any a len cap w hc hl
  have ES : Hid (∀ w', Src w' w.heap.size → Calls Tryd.prog 74 #[.pointer (some ⟨w.heap.size, 0, none⟩)] w' fun e w'' => SomeAns 101 w.heap.size w' e w'') := fun w' h => some_any _ w' h
  have EN : Hid (∀ m w', Src w' w.heap.size → m ≤ 1000 → Calls Tryd.prog 65 #[.pointer (some ⟨w.heap.size, 0, none⟩), .int .i64 m] w' fun e w'' => NumAns m w.heap.size w' e w'') := fun m w' h hm => n_any _ m w' h (by omega)
  have EO : Hid (∀ w', Src w' w.heap.size → Calls Tryd.prog 64 #[.pointer (some ⟨w.heap.size, 0, none⟩), .int .i64 3] w' fun e w'' => BoolAns w.heap.size w' e w'') := fun w' h => one_any _ 3 w' h (by omega)
  have EE : Hid (∀ w', Src w' w.heap.size → Calls Tryd.prog 71 #[.pointer (some ⟨w.heap.size, 0, none⟩)] w' fun e w'' => AnyAns w.heap.size w' e w'') := fun w' h => edge_any _ w' h
  have ET : Hid (∀ v l w', Texts w' w'.heap.size v l → l.length ≤ 100 → Calls Tryd.prog 28 #[v] w' fun e w'' => e = .returned (.string (treeV l)) ∧ Below w'.heap.size w' w'') := fun v l w' h hl => specTreeHash_any v l w' h (by omega)
  have EP : Hid (∀ v l w' (m : Int), Texts w' w'.heap.size v l → l.length ≤ 100 → 1 ≤ m → m ≤ 100 → Calls Tryd.prog 44 #[v, .int .i64 m] w' fun e w'' => ∃ v', e = .returned v' ∧ OwnT w'' w'.heap.size v' (proofV l m) ∧ Below w'.heap.size w' w'') := fun v l w' m h hl h0 h1 => specProofOf_any v l m w' h (by omega) (by omega) (by omega)
  have ED0 : Hid (∀ s w', Calls Tryd.prog 22 #[.string ⟨#[s]⟩] w' fun e w'' => DigAns w' e w'') := fun s w' => (specDigest_any ⟨#[s]⟩ w' (show (1 : Nat) ≤ 1048576 by omega)).mono (by
    rintro e w'' ⟨rfl, hb⟩
    exact ⟨_, rfl, digV_size _, hb⟩)
  have EZ : Hid (∀ w', Calls Tryd.prog 22 #[.string ⟨#[122]⟩] w' fun e w'' => DigAns w' e w'') := fun w' => ED0.out 122 w'
  have EX : Hid (∀ v l w', Src w' w.heap.size → Texts w' w'.heap.size v l → l.length ≤ 100 → (∀ t ∈ l, t.size = 32) → Calls Tryd.prog 88 #[.pointer (some ⟨w.heap.size, 0, none⟩), v] w' fun e w'' => SpoilAns w.heap.size l.length w' e w'') := fun v l w' hs ht hl hz => spoil_any _ v l w' hs ht hl hz ED0
  clear hc ED0
  go_enter Tryd.func46, Tryd.ntmps46
  go_wp2_with fail
  refine E0.out.mono ?_
  rintro e w1 ⟨rfl, hs1, hb1⟩
  have H1 : Hid (Src w1 w.heap.size ∧ Below w.heap.size w w1) := ⟨hs1, hb1⟩
  clear hs1 hb1 E0
  go_wp2_with fail
  refine (ES.out _ H1.out.1).mono ?_
  rintro e w2 ⟨v2, l2, rfl, ho2, hl2, hz2, hs2, hg2⟩
  have H2 : Hid (DrC w w2 w1.heap.size v2 l2) := ⟨ho2, hs2, below_of_grown H1.out.2 hg2, H1.out.1.lt⟩
  have hown := H2.out.1
  have hszw : w1.heap.size ≤ w2.heap.size := hg2.size
  have hll : l2.length ≤ 1048576 := by omega
  have HB1 : Hid (w.heap.size < w1.heap.size) := H1.out.1.lt
  clear ho2 hz2 hs2 hg2 ES
  go_wp2_with (at_builtin; go_must (refine wp_app_text rfl (.tmp 17) (.tmp 18) rfl w1.heap.size _ _ rfl hown ⟨#[101, 110, 100]⟩ rfl hll hszw ?_); intro v3 w3 hown3 hb3; obtain ⟨a3, c3, rfl⟩ : ∃ a c, v3 = .slice a (l2.length + 1) c := (by obtain ⟨a, c, h⟩ := hown3.len; exact ⟨a, c, by rw [h]; simp⟩))
  obtain ⟨L, hL⟩ : ∃ L, L = l2 ++ [(⟨#[101, 110, 100]⟩ : ByteArray)] := ⟨_, rfl⟩
  rw [← hL] at hown3
  have HLN : Hid (L.length = l2.length + 1) := by show _ = _; rw [hL]; simp
  have H3 : Hid (DrC w w3 w1.heap.size (.slice a3 (l2.length + 1) c3) L) := ⟨hown3, H2.out.2.1.below hb3 HB1.out, H2.out.2.2.1.trans (hb3.mono (Nat.le_of_lt HB1.out)), HB1.out⟩
  generalize l2.length = n2 at *
  generalize w1.heap.size = B at *
  clear hown hszw hll H2 H1 hown3 hb3 hL
  have hn0 : (1 : Int) ≤ (n2 : Int) + 1 := by omega
  have hn1 : (n2 : Int) + 1 ≤ 32 := by omega
  go_wp2_with fail
  refine (EN.out _ _ H3.out.2.1 (by omega)).mono ?_
  rintro e w4 ⟨x, rfl, hx0, hx1, hs4, hg4⟩
  have H4 : Hid (DrC w w4 B (.slice a3 (n2 + 1) c3) L) := H3.out.grow hg4 hs4
  obtain ⟨m, rfl⟩ := Int.eq_ofNat_of_zero_le hx0
  have hm : m ≤ n2 := by omega
  clear hs4 hg4 H3 hx1 hx0
  obtain ⟨v5, hsl, hT5⟩ := slice_h H4.out.1.texts (1 + m) (by have := HLN.out; omega) (1 + (m : Int)) (by omega)
  have HT5 : Hid (Texts w4 w4.heap.size v5 (L.take (1 + m))) := hT5
  clear hT5
  go_wp2_with fail
  refine (ET.out _ _ _ HT5.out (by rw [List.length_take]; omega)).mono ?_
  rintro e w5 ⟨rfl, hb5⟩
  have H5 : Hid (DrC w w5 B (.slice a3 (n2 + 1) c3) L) := H4.out.below hb5
  have HW : Hid ((treeV (L.take (1 + m))).size ≤ 32) := treeV_size _
  generalize treeV (L.take (1 + m)) = was at *
  clear hb5 H4 HT5 hsl
  go_wp2_with fail
  refine (ET.out _ _ _ H5.out.1.texts (by have := HLN.out; omega)).mono ?_
  rintro e w6 ⟨rfl, hb6⟩
  have H6 : Hid (DrC w w6 B (.slice a3 (n2 + 1) c3) L) := H5.out.below hb6
  have HR : Hid ((treeV L).size ≤ 32) := treeV_size _
  generalize treeV L = rt at *
  clear hb6 H5 ET
  go_wp2_with fail
  refine (EP.out _ _ _ _ H6.out.1.texts (by have := HLN.out; omega) (by omega) (by omega)).mono ?_
  rintro e w7 ⟨vp, rfl, ho7, hb7⟩
  have HPV : Hid ((proofV L (1 + (m : Int))).length ≤ 7 ∧ ∀ t ∈ proofV L (1 + (m : Int)), t.size = 32) := by
    have := proofV_told (l := L) (by have := HLN.out; omega) (1 + m) (by omega) (by have := HLN.out; omega)
    rw [show ((1 + m : Nat) : Int) = 1 + (m : Int) by omega] at this
    exact this
  have H7 : Hid (DrC w w7 B (.slice a3 (n2 + 1) c3) L ∧ OwnT w7 w6.heap.size vp (proofV L (1 + (m : Int))) ∧ w.heap.size < w6.heap.size) := ⟨H6.out.below hb7, ho7, H6.out.2.1.lt⟩
  generalize proofV L (1 + (m : Int)) = P at *
  generalize w6.heap.size = BP at *
  clear hb7 ho7 H6 EP
  go_wp2_with fail
  refine (EO.out _ H7.out.1.2.1).mono ?_
  rintro e w8 ⟨b, rfl, hs8, hg8⟩
  have H8 : Hid (DrC w w8 B (.slice a3 (n2 + 1) c3) L ∧ OwnT w8 BP vp P ∧ w.heap.size < BP) := ⟨H7.out.1.grow hg8 hs8, H7.out.2.1.grown hg8 H7.out.2.2, H7.out.2.2⟩
  clear hs8 hg8 H7 EO
  have HPL : Hid (P.length ≤ 1000) := by have := HPV.out.1; show _ ≤ _; omega
  have DONE : Hid (∀ (m' n' : Int) (v' : Value) (l' : List ByteArray) (was' : ByteArray) (W : World), Texts W W.heap.size v' l' → l'.length ≤ 1000 → -9223372036854775808 ≤ m' → m' ≤ 9223372036854775807 → -9223372036854775808 ≤ n' → n' ≤ 9223372036854775807 → was'.size ≤ 32 → Below w.heap.size w W → ConsAns w (.returned (.tuple #[.int .i64 m', .int .i64 n', v', .string was', .string rt])) W) :=
    fun m' n' v' l' was' W h1 h2 h3 h4 h5 h6 h7 h8 => ⟨m', n', v', l', was', rt, rfl, h1, h2, ⟨h3, h4, h5, h6⟩, h7, HR.out, h8⟩
  cases b with
  | false =>
    go_wp2
    exact bodyPost_ret (v := .tuple #[.int .i64 (1 + (m : Int)), .int .i64 ((n2 : Int) + 1), vp, .string was, .string rt]) (by simp [results, Tryd.results46, go_sem]) rfl (DONE.out _ _ _ _ _ _ H8.out.2.1.texts HPL.out (by omega) (by omega) (by omega) (by omega) HW.out H8.out.1.2.2.1)
  | true =>
    go_wp2_with fail
    refine (EN.out _ _ H8.out.1.2.1 (by omega)).mono ?_
    rintro e w9 ⟨y, rfl, hy0, hy1, hs9, hg9⟩
    have H9 : Hid (DrC w w9 B (.slice a3 (n2 + 1) c3) L ∧ OwnT w9 BP vp P ∧ w.heap.size < BP) := ⟨H8.out.1.grow hg9 hs9, H8.out.2.1.grown hg9 H8.out.2.2, H8.out.2.2⟩
    clear hs9 hg9 H8
    have hy4 : y = 0 ∨ y = 1 ∨ y = 2 ∨ y = 3 := by omega
    clear hy0 hy1
    rcases hy4 with rfl | rfl | rfl | rfl
    · go_wp2_with fail
      refine (EX.out _ _ _ H9.out.1.2.1 H9.out.2.1.texts (by have := HPV.out.1; omega) HPV.out.2).mono ?_
      rintro e w10 ⟨v10, l10, rfl, ht10, hl10, hz10, hs10, hg10⟩
      have H10 : Hid (Texts w10 w10.heap.size v10 l10 ∧ l10.length ≤ 1000 ∧ Below w.heap.size w w10) := ⟨ht10, by have := HPV.out.1; omega, below_of_grown H9.out.1.2.2.1 hg10⟩
      clear ht10 hl10 hz10 hs10 hg10 H9
      go_wp2
      exact bodyPost_ret (v := .tuple #[.int .i64 (1 + (m : Int)), .int .i64 ((n2 : Int) + 1), v10, .string was, .string rt]) (by simp [results, Tryd.results46, go_sem]) rfl (DONE.out _ _ _ _ _ _ H10.out.1 H10.out.2.1 (by omega) (by omega) (by omega) (by omega) HW.out H10.out.2.2)
    · go_wp2_with fail
      refine (EN.out _ _ H9.out.1.2.1 (by omega)).mono ?_
      rintro e w10 ⟨z, rfl, hz0, hz1, hs10, hg10⟩
      have H10 : Hid (OwnT w10 BP vp P ∧ Below w.heap.size w w10) := ⟨H9.out.2.1.grown hg10 H9.out.2.2, below_of_grown H9.out.1.2.2.1 hg10⟩
      have hz2 : z ≤ 2 := by omega
      clear hs10 hg10 H9 hz1
      go_wp2
      exact bodyPost_ret (v := .tuple #[.int .i64 (1 + (m : Int) + z - 1), .int .i64 ((n2 : Int) + 1), vp, .string was, .string rt]) (by simp [results, Tryd.results46, go_sem]) rfl (DONE.out _ _ _ _ _ _ H10.out.1.texts HPL.out (by omega) (by omega) (by omega) (by omega) HW.out H10.out.2)
    · go_wp2_with fail
      refine (EE.out _ H9.out.1.2.1).mono ?_
      rintro e w10 ⟨z, rfl, hz0, hz1, hs10, hg10⟩
      have H10 : Hid (DrC w w10 B (.slice a3 (n2 + 1) c3) L ∧ OwnT w10 BP vp P ∧ w.heap.size < BP) := ⟨H9.out.1.grow hg10 hs10, H9.out.2.1.grown hg10 H9.out.2.2, H9.out.2.2⟩
      clear hs10 hg10 H9
      have hq10 : w.heap.size < w10.heap.size := H10.out.1.2.1.lt
      have ha10 : Below w10.heap.size w10 (w10.alloc (.cells #[.int .i64 ((n2 : Int) + 1 + 1), .int .i64 (n2 : Int), .int .i64 z, .int .i64 4611686018427387904] 2)) := (Below.refl _ _).alloc (Nat.le_refl _) _
      have HA : Hid (Below w10.heap.size w10 (w10.alloc (.cells #[.int .i64 ((n2 : Int) + 1 + 1), .int .i64 (n2 : Int), .int .i64 z, .int .i64 4611686018427387904] 2))) := ha10
      clear ha10
      go_wp2_with fail
      refine (EN.out _ _ (H10.out.1.below HA.out).2.1 (by omega)).mono ?_
      rintro e w11 ⟨y, rfl, hy0, hy1, hs11, hg11⟩
      have c0 := edge_cell hg11 hq10 0
      have c1 := edge_cell hg11 hq10 1
      have c2 := edge_cell hg11 hq10 2
      have c3 := edge_cell hg11 hq10 3
      have H11 : Hid (OwnT w11 BP vp P ∧ Below w.heap.size w w11) := ⟨(H10.out.2.1.below HA.out (Nat.le_refl _)).grown hg11 H10.out.2.2, below_of_grown (H10.out.1.below HA.out).2.2.1 hg11⟩
      have hy4 : y = 0 ∨ y = 1 ∨ y = 2 ∨ y = 3 := by omega
      clear hs11 hg11 H10 hy0 hy1 HA
      rcases hy4 with rfl | rfl | rfl | rfl
      · go_wp2
        exact bodyPost_ret (v := .tuple #[.int .i64 (1 + (m : Int)), .int .i64 ((n2 : Int) + 1 + 1), vp, .string was, .string rt]) (by simp [results, Tryd.results46, go_sem]) rfl (DONE.out _ _ _ _ _ _ H11.out.1.texts HPL.out (by omega) (by omega) (by omega) (by omega) HW.out H11.out.2)
      · go_wp2
        exact bodyPost_ret (v := .tuple #[.int .i64 (1 + (m : Int)), .int .i64 ((n2 : Int)), vp, .string was, .string rt]) (by simp [results, Tryd.results46, go_sem]) rfl (DONE.out _ _ _ _ _ _ H11.out.1.texts HPL.out (by omega) (by omega) (by omega) (by omega) HW.out H11.out.2)
      · go_wp2
        exact bodyPost_ret (v := .tuple #[.int .i64 (1 + (m : Int)), .int .i64 (z), vp, .string was, .string rt]) (by simp [results, Tryd.results46, go_sem]) rfl (DONE.out _ _ _ _ _ _ H11.out.1.texts HPL.out (by omega) (by omega) (by omega) (by omega) HW.out H11.out.2)
      · go_wp2
        exact bodyPost_ret (v := .tuple #[.int .i64 (1 + (m : Int)), .int .i64 (4611686018427387904), vp, .string was, .string rt]) (by simp [results, Tryd.results46, go_sem]) rfl (DONE.out _ _ _ _ _ _ H11.out.1.texts HPL.out (by omega) (by omega) (by omega) (by omega) HW.out H11.out.2)
    · go_wp2_with fail
      refine (EZ.out _).mono ?_
      rintro e w10 ⟨d, rfl, hd, hb10⟩
      have H10 : Hid (OwnT w10 BP vp P ∧ d.size ≤ 32 ∧ Below w.heap.size w w10) := ⟨H9.out.2.1.below hb10 (Nat.le_refl _), hd, H9.out.1.2.2.1.trans (hb10.mono H9.out.1.2.2.1.size)⟩
      clear hd hb10 H9
      go_wp2
      exact bodyPost_ret (v := .tuple #[.int .i64 (1 + (m : Int)), .int .i64 ((n2 : Int) + 1), vp, .string d, .string rt]) (by simp [results, Tryd.results46, go_sem]) rfl (DONE.out _ _ _ _ _ _ H10.out.1.texts HPL.out (by omega) (by omega) (by omega) (by omega) H10.out.2.1 H10.out.2.2)
end Go.Proofs.YtchlopmmhcobdaaDoor
