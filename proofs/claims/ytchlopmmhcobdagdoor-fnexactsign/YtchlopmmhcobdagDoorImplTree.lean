/-
  The program's tree of entries: level by level.
-/
import Derived.Test.YtchlopmmhcobdagDoorTogether
import Derived.Test.YtchlopmmhcobdagDoorSplit
namespace Go.Proofs.YtchlopmmhcobdagDoor
open Go.RowKit Go.Lib
set_option linter.unusedVariables false

/-- What the first two of a row of texts, or its only one, come to. -/
theorem level_step (l : List ByteArray) (k : Nat) (h : 2 * k < l.length) :
    levelD nodeB (l.take (2 * (k + 1))) = levelD nodeB (l.take (2 * k)) ++ [rootD nodeB noneB ((l.take (min (2 * k + 2) l.length)).drop (2 * k))] := by
  have e1 : l.take (2 * (k + 1)) = l.take (2 * k) ++ (l.take (min (2 * k + 2) l.length)).drop (2 * k) := by
    rw [show 2 * (k + 1) = 2 * k + 2 by omega]
    have : l.take (min (2 * k + 2) l.length) = l.take (2 * k + 2) := by
      rcases Nat.lt_or_ge (2 * k + 2) l.length with h | h
      · rw [Nat.min_eq_left (by omega)]
      · rw [Nat.min_eq_right h, List.take_of_length_le (Nat.le_refl _), List.take_of_length_le h]
    rw [this]
    have e2 : l.take (2 * k) = (l.take (2 * k + 2)).take (2 * k) := by rw [List.take_take, Nat.min_eq_left (by omega)]
    rw [e2, List.take_append_drop]
  rw [e1, levelD_append nodeB _ _ (by rw [List.length_take]; omega)]
  congr 1
  have hlen : ((l.take (min (2 * k + 2) l.length)).drop (2 * k)).length = min (2 * k + 2) l.length - 2 * k := by rw [List.length_drop, List.length_take]; omega
  match hr : (l.take (min (2 * k + 2) l.length)).drop (2 * k), hlen with
  | [], hl => simp at hl; omega
  | [x], _ => rfl
  | [x, y], _ => rfl
  | x :: y :: z :: r, hl => simp at hl; omega

set_option maxHeartbeats 1000000 in
theorem nextLevel_any (v : Value) (l : List ByteArray) (w : World) (h : Texts w w.heap.size v l) (hl : l.length ≤ 1048576) (hz : ∀ j (hj : j < l.length), l[j].size ≤ 1000) (hK : Keys w) :
    Calls Tryd.prog 72 #[v] w fun e w' => ∃ v', e = .returned v' ∧ OwnT w' w.heap.size v' (levelD nodeB l) ∧ Below w.heap.size w w' := by
  have HS : Hid (∀ i j : Nat, i ≤ j → j ≤ l.length → ∀ x : Int, x = (i : Int) → ∃ v1, (∀ w1, (Instr.slice 24 v (some (.int .i64 x)) (some (.int .i64 j)) none).run Tryd.prog w1 = .ok v1 w1) ∧ Texts w w.heap.size v1 ((l.take j).drop i)) := fun i j hij hj x hx => slice_lh h i j hij hj x j hx rfl
  have HZ : Hid (∀ j (hj : j < l.length), l[j].size ≤ 1000) := hz
  have HK : Hid (Keys w) := hK
  obtain ⟨a, cap, rfl, hcap, hc⟩ := h.at
  clear hc h hcap hz hK
  obtain ⟨n, hn⟩ : ∃ n, n = l.length := ⟨_, rfl⟩
  have HN : Hid (n = l.length) := hn
  rw [← hn] at hl HS ⊢
  clear hn
  go_enter Tryd.func72, Tryd.ntmps72
  go_wp2
  go_loopw [3, 4] (fun x i wr => ∃ k : Nat, k ≤ n ∧ i = .int .i64 (2 * k : Nat) ∧ OwnT wr w.heap.size x (levelD nodeB (l.take (2 * k))) ∧ Below w.heap.size w wr) (fun _ i _ => (n + 2) - (RowKit.intOf i).toNat)
  case atStart => exact ⟨0, Nat.zero_le _, rfl, OwnT.nil w w.heap.size, Below.refl _ _⟩
  case round =>
    obtain ⟨k, hk, rfl, hown, hb⟩ := hrel
    have hkI : ((2 * k : Nat) : Int) = 2 * (k : Int) := by omega
    by_cases hkn : 2 * k < n
    · obtain ⟨j, hj⟩ : ∃ j, j = min (2 * k + 2) n := ⟨_, rfl⟩
      obtain ⟨v1, hs1, ht1⟩ := HS.out (2 * k) j (by omega) (by omega) (2 * (k : Int)) (by omega)
      have hjI : min (2 * (k : Int) + 2) (n : Int) = (j : Int) := by omega
      have hll : (levelD nodeB (l.take (2 * k))).length ≤ 1048576 := by rw [levelD_len, List.length_take]; omega
      have HST := level_step l k (by rw [← HN.out]; exact hkn)
      rw [← HN.out, ← hj] at HST
      have HT : Hid (levelD nodeB (l.take (2 * (k + 1))) = levelD nodeB (l.take (2 * k)) ++ [rootD nodeB noneB ((l.take j).drop (2 * k))] ∧ Texts wr wr.heap.size v1 ((l.take j).drop (2 * k)) ∧ (∀ i (hi : i < ((l.take j).drop (2 * k)).length), ((l.take j).drop (2 * k))[i].size ≤ 1000) ∧ ((l.take j).drop (2 * k)).length ≤ 1048576 ∧ Keys wr ∧ Below w.heap.size w wr ∧ OwnT wr w.heap.size u3 (levelD nodeB (l.take (2 * k)))) := by
        refine ⟨HST, (ht1.below hb).up hb.size, fun i hi => ?_, by rw [List.length_drop, List.length_take]; omega, HK.out.below hb HK.out.lt, hb, hown⟩
        rw [List.getElem_drop, List.getElem_take]
        exact HZ.out _ _
      have hsz := hb.size
      clear HST hown hb ht1 HZ HS HK hj
      have E : Hid (Calls Tryd.prog 73 #[v1] wr fun e w' => e = .returned (.string (rootD nodeB noneB ((l.take j).drop (2 * k)))) ∧ Below wr.heap.size wr w') := together_any v1 _ wr HT.out.2.1 HT.out.2.2.2.1 HT.out.2.2.1 HT.out.2.2.2.2.1
      generalize rootD nodeB noneB ((l.take j).drop (2 * k)) = t at *
      go_wp2_with fail
      refine E.out.mono ?_
      rintro e w1 ⟨rfl, hb1⟩
      have hown1 := HT.out.2.2.2.2.2.2.below hb1 (Nat.le_refl _)
      have H1 : Hid (Below w.heap.size w w1) := HT.out.2.2.2.2.2.1.trans (hb1.mono hsz)
      have hsz1 := H1.out.size
      clear hb1 E
      go_wp2_with (at_builtin; go_must (refine wp_app_text rfl (.tmp 17) (.tmp 23) rfl w.heap.size _ _ rfl hown1 t rfl hll hsz1 ?_); intro v2 w2 hown2 hb2)
      go_roundw
      case rel => exact ⟨k + 1, by omega, by go_num, by rw [HT.out.1]; exact hown2, H1.out.trans hb2⟩
      case measure => simp [RowKit.intOf]; omega
    · have HF : Hid (levelD nodeB (l.take (2 * k)) = levelD nodeB l) := by
        show _ = _
        rw [List.take_of_length_le (by rw [← HN.out]; omega)]
      have H1 : Hid (OwnT wr w.heap.size u3 (levelD nodeB l) ∧ Below w.heap.size w wr) := ⟨by rw [← HF.out]; exact hown, hb⟩
      clear hown hb HF HS HZ HK HN
      go_wp2
      go_ret
      exact ⟨_, rfl, H1.out.1, H1.out.2⟩
end Go.Proofs.YtchlopmmhcobdagDoor
