/-
  The program's digest of two texts, one behind the other.
-/
import Derived.Test.YtchlopmmhcobdaaDoorHashEnd
namespace Go.Proofs.YtchlopmmhcobdaaDoor
open Go.RowKit Go.Lib
set_option linter.unusedVariables false

theorem end_value (f b : List UInt8) : out8 (absorb (absorb (absorb first8 f) (rest f ++ b)) (rest (rest f ++ b) ++ padding (f.length + b.length))) 8 = shaL (f ++ b) := by
  unfold shaL
  have h1 := absorb_append first8 f b
  have h2 := absorb_append first8 (f ++ b) (padding (f ++ b).length)
  rw [h2.1, h1.1, h1.2, List.length_append]

set_option maxHeartbeats 2000000 in
set_option maxRecDepth 10000 in
theorem digestOf_any (f b : ByteArray) (w : World) (hf : f.size ≤ 50000) (hb : b.size ≤ 50000) (hK : Keys w) :
    Calls Tryd.prog 69 #[.string f, .string b] w fun e w' => e = .returned (.string (shaB (f ++ b))) ∧ Below w.heap.size w w' := by
  have hv := end_value f.data.toList b.data.toList
  have E1 : Hid (∀ g w, Keys w → w.heap[g]? = some (.cells (hashObj first8 ByteArray.empty 0) 155 (0, 0)) → 2 < g → Calls Tryd.prog 121 #[.pointer (some ⟨g, 0, none⟩), .string f] w fun e w' => e = .returned (.tuple #[]) ∧ w'.heap[g]? = some (.cells (hashObj (absorb first8 f.data.toList) (baOf (rest f.data.toList)) f.size) 155 (0, 0)) ∧ Below g w w') := by
    intro g w h1 h2 h3
    have h := add_any first8 ByteArray.empty f 0 g w first8_ok (by simp) (by omega) (by omega) (by omega) h1 h2 h3 (baOf (rest f.data.toList)) (by rw [baOf_list, ByteArray.empty_append])
    rw [ByteArray.empty_append, Int.zero_add] at h
    exact h
  have E2 : Hid (∀ g w, Keys w → w.heap[g]? = some (.cells (hashObj (absorb first8 f.data.toList) (baOf (rest f.data.toList)) f.size) 155 (0, 0)) → 2 < g → Calls Tryd.prog 121 #[.pointer (some ⟨g, 0, none⟩), .string b] w fun e w' => e = .returned (.tuple #[]) ∧ w'.heap[g]? = some (.cells (hashObj (absorb (absorb first8 f.data.toList) (rest f.data.toList ++ b.data.toList)) (baOf (rest (rest f.data.toList ++ b.data.toList))) ((f.size + b.size : Nat) : Int)) 155 (0, 0)) ∧ Below g w w') := by
    intro g w h1 h2 h3
    have hl : (rest f.data.toList).length ≤ 64 := by rw [rest_len]; omega
    have h := add_any _ (baOf (rest f.data.toList)) b f.size g w (absorb_ok first8_ok _) (by rw [baOf_size]; exact hl) (by omega) (by omega) (by omega) h1 h2 h3 (baOf (rest (rest f.data.toList ++ b.data.toList))) (by rw [baOf_list, ba_app_list, baOf_list])
    rw [ba_app_list, baOf_list, ← Int.natCast_add] at h
    exact h
  have E3 : Hid (∀ g w, Keys w → w.heap[g]? = some (.cells (hashObj (absorb (absorb first8 f.data.toList) (rest f.data.toList ++ b.data.toList)) (baOf (rest (rest f.data.toList ++ b.data.toList))) ((f.size + b.size : Nat) : Int)) 155 (0, 0)) → 2 < g → Calls Tryd.prog 122 #[.pointer (some ⟨g, 0, none⟩)] w fun e w' => e = .returned (.string (shaB (f ++ b))) ∧ Below g w w') := by
    intro g w h1 h2 h3
    have h := end_any _ (baOf (rest (rest f.data.toList ++ b.data.toList))) (f.size + b.size) g w (absorb_ok (absorb_ok first8_ok _) _) (by
      rw [baOf_size, rest_len, List.length_append, rest_len, ba_len, ba_len]
      omega) (by omega) h1 h2 h3
    rw [baOf_list] at h
    have e : out8 (absorb (absorb (absorb first8 f.data.toList) (rest f.data.toList ++ b.data.toList)) (rest (rest f.data.toList ++ b.data.toList) ++ padding (f.size + b.size))) 8 = shaL (f ++ b).data.toList := by
      rw [ba_app_list]
      exact hv
    rw [e] at h
    exact h
  have HK : Hid (Keys w) := hK
  clear hK hv hf hb
  generalize shaB (f ++ b) = V at *
  generalize absorb (absorb first8 f.data.toList) (rest f.data.toList ++ b.data.toList) = A2 at *
  generalize absorb first8 f.data.toList = A1 at *
  generalize baOf (rest (rest f.data.toList ++ b.data.toList)) = R2 at *
  generalize baOf (rest f.data.toList) = R1 at *
  go_enter Tryd.func69, Tryd.ntmps69
  go_wp2_with fail
  refine (newHash_any _).mono ?_
  rintro e w1 ⟨g, rfl, hgw, hg1, hb1⟩
  have H1 : Hid (Keys w1 ∧ w1.heap[g]? = _ ∧ 2 < g ∧ w.heap.size ≤ g ∧ Below w.heap.size w w1) := ⟨HK.out.below hb1 HK.out.lt, hg1, Nat.lt_of_lt_of_le HK.out.lt hgw, hgw, hb1⟩
  clear hgw hg1 hb1
  go_wp2_with fail
  refine (E1.out _ _ H1.out.1 H1.out.2.1 H1.out.2.2.1).mono ?_
  rintro e w2 ⟨rfl, hg2, hb2⟩
  have H2 : Hid (Keys w2 ∧ w2.heap[g]? = _ ∧ Below w.heap.size w w2) := ⟨H1.out.1.below hb2 H1.out.2.2.1, hg2, H1.out.2.2.2.2.trans (hb2.mono H1.out.2.2.2.1)⟩
  clear hg2 hb2
  go_wp2_with fail
  refine (E2.out _ _ H2.out.1 H2.out.2.1 H1.out.2.2.1).mono ?_
  rintro e w3 ⟨rfl, hg3, hb3⟩
  have H3 : Hid (Keys w3 ∧ w3.heap[g]? = _ ∧ Below w.heap.size w w3) := ⟨H2.out.1.below hb3 H1.out.2.2.1, hg3, H2.out.2.2.trans (hb3.mono H1.out.2.2.2.1)⟩
  clear hg3 hb3
  go_wp2_with fail
  refine (E3.out _ _ H3.out.1 H3.out.2.1 H1.out.2.2.1).mono ?_
  rintro e w4 ⟨rfl, hb4⟩
  have H4 : Hid (Below w.heap.size w w4) := H3.out.2.2.trans (hb4.mono H1.out.2.2.2.1)
  clear hb4
  go_wp2
  go_ret
  exact ⟨rfl, H4.out⟩

end Go.Proofs.YtchlopmmhcobdaaDoor
