/-
  A sealed text comes back by Unseal; with one byte turned it is refused with the code 5. Plain laws.
-/
import Derived.Test.YtbaodgjkplhmaaaCrcPure
namespace Go.Proofs.Ytbaodgjkplhmaaa
open Go.RowKit Go.Lib
set_option linter.unusedVariables false

theorem mk_size (l : List UInt8) : (⟨l.toArray⟩ : ByteArray).size = l.length := by simp [ByteArray.size]

theorem sumRight_list (l : List UInt8) (h : 4 ≤ l.length) : sumRight ⟨l.toArray⟩ = (fourL (crcOf 0 (l.take (l.length - 4))) == l.drop (l.length - 4)) := by
  unfold sumRight
  have e0 : (⟨l.toArray⟩ : ByteArray).size = l.length := by simp [ByteArray.size]
  have e1 : ((⟨l.toArray⟩ : ByteArray).extract 0 (l.length - 4)).data.toList = l.take (l.length - 4) := by rw [extract_data]; simp
  have e2 : ((⟨l.toArray⟩ : ByteArray).extract (l.length - 4) l.length).data.toList = l.drop (l.length - 4) := by rw [extract_data]; exact List.take_of_length_le (by simp)
  rw [e0, toList_data, toList_data, e1, e2]
  rfl

theorem sealV_list {t : ByteArray} (h : t.size ≤ 19996) : sealV t = ⟨(t.data.toList ++ fourL (crcOf 0 t.data.toList)).toArray⟩ := by
  unfold sealV
  rw [if_neg (by omega)]
  apply ByteArray.ext
  simp [ByteArray.data_append, fourS]

theorem fourL_len (n : Int) : (fourL n).length = 4 := rfl

theorem sealed_back {t : ByteArray} (h : t.size ≤ 19996) : unT (sealV t) = t ∧ unC (sealV t) = 0 := by
  rw [sealV_list h]
  have hl : (t.data.toList ++ fourL (crcOf 0 t.data.toList)).length = t.size + 4 := by simp [fourL_len]
  have hs : (⟨(t.data.toList ++ fourL (crcOf 0 t.data.toList)).toArray⟩ : ByteArray).size = t.size + 4 := (mk_size _).trans hl
  have hr : sumRight ⟨(t.data.toList ++ fourL (crcOf 0 t.data.toList)).toArray⟩ = true := by
    rw [sumRight_list _ (by rw [hl]; omega), hl]
    have ht : t.size + 4 - 4 = t.data.toList.length := by simp
    rw [ht, List.take_left, List.drop_left]
    simp
  unfold unT unC
  rw [hr, hs, if_neg (by simp; omega), if_neg (by omega), if_neg (by omega)]
  refine ⟨?_, by simp⟩
  apply ByteArray.ext
  apply Array.ext'
  rw [extract_data]
  simp

theorem sealed_turned {t : ByteArray} (h : t.size ≤ 19996) (i : Nat) (c : UInt8) (hi : i < (t.data.toList ++ fourL (crcOf 0 t.data.toList)).length) (hc : c ≠ (t.data.toList ++ fourL (crcOf 0 t.data.toList))[i]) :
    unC ⟨((t.data.toList ++ fourL (crcOf 0 t.data.toList)).set i c).toArray⟩ = 5 := by
  have hl : (t.data.toList ++ fourL (crcOf 0 t.data.toList)).length = t.size + 4 := by simp [fourL_len]
  have hl2 : ((t.data.toList ++ fourL (crcOf 0 t.data.toList)).set i c).length = t.size + 4 := by rw [List.length_set, hl]
  have hs : (⟨((t.data.toList ++ fourL (crcOf 0 t.data.toList)).set i c).toArray⟩ : ByteArray).size = t.size + 4 := (mk_size _).trans hl2
  have hr : sumRight ⟨((t.data.toList ++ fourL (crcOf 0 t.data.toList)).set i c).toArray⟩ = false := by
    rw [sumRight_list _ (by rw [hl2]; omega), hl2]
    have ht : t.size + 4 - 4 = t.data.toList.length := by simp
    rw [ht, beq_eq_false_iff_ne]
    intro e
    generalize hT : t.data.toList = T at *
    by_cases hlt : i < T.length
    · rw [List.set_append_left _ _ hlt, List.drop_append_of_le_length (by simp), List.take_append_of_le_length (by simp)] at e
      rw [List.take_of_length_le (by simp), List.drop_eq_nil_of_le (by simp), List.nil_append] at e
      have b1 := crcOf_bd 0 (T.set i c)
      have b2 := crcOf_bd 0 T
      have e1 := fourL_inj b1.1 b1.2 b2.1 b2.2 e
      rw [List.getElem_append_left hlt] at hc
      have hd : T = T.take i ++ T[i] :: T.drop (i + 1) := by
        rw [← List.drop_eq_getElem_cons hlt, List.take_append_drop]
      have hd2 : T.set i c = T.take i ++ c :: T.drop (i + 1) := List.set_eq_take_append_cons_drop.trans (if_pos hlt)
      rw [hd2] at e1
      have := crcOf_turned (T.take i) (T.drop (i + 1)) c T[i] hc
      rw [← hd] at this
      exact this e1
    · rw [List.set_append_right _ _ (by omega), List.take_left, List.drop_left] at e
      rw [List.getElem_append_right (by omega)] at hc
      have hf := fourL_len (crcOf 0 T)
      have hi4 : i - T.length < (fourL (crcOf 0 T)).length := by rw [List.length_append] at hi; omega
      have := congrArg (fun l => l[i - T.length]?) e
      simp only [List.getElem?_set_self hi4] at this
      rw [List.getElem?_eq_getElem hi4] at this
      exact hc (Option.some.inj this).symm
  unfold unC
  rw [hr, hs, if_neg (by omega), if_neg (by omega)]
  simp
end Go.Proofs.Ytbaodgjkplhmaaa
