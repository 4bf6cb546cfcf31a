/-
  Numbers and texts come back from their bytes, at the very texts that the law FnNums makes. Plain laws.
-/
import Derived.Test.YtbaodgjkplhmaaaDoorNumsPure
namespace Go.Proofs.YtbaodgjkplhmaaaDoor
open Go.RowKit Go.Lib
set_option linter.unusedVariables false

theorem byteAt_list (l : List UInt8) (k : Nat) : byteAt ⟨l.toArray⟩ k = ((l.getD k 0).toNat : Int) := by unfold byteAt; simp
theorem ba_size (l : List UInt8) : (⟨l.toArray⟩ : ByteArray).size = l.length := by simp [ByteArray.size]
theorem getD_mid (a b c : List UInt8) (i : Nat) (h : i < b.length) : (a ++ (b ++ c)).getD (a.length + i) 0 = b.getD i 0 := by
  simp only [List.getD]
  rw [List.getElem?_append_right (by omega), Nat.add_sub_cancel_left, List.getElem?_append_left h]

theorem nums_a {n : Int} (h0 : -9223372036854775808 ≤ n) (h1 : n ≤ 9223372036854775807) :
    numR ((⟨#[120, 121]⟩ ++ (⟨(putNum n).toArray⟩ : ByteArray)) ++ ⟨#[122]⟩) 2 = (n, ((⟨(putNum n).toArray⟩ : ByteArray).size : Int) + 2, 0) := by
  have hl := putNum_len h0 h1
  have e : ((⟨#[120, 121]⟩ ++ (⟨(putNum n).toArray⟩ : ByteArray)) ++ ⟨#[122]⟩) = ⟨([120, 121] ++ (putNum n ++ [122])).toArray⟩ := by
    apply ByteArray.ext; simp [ByteArray.data_append]
  rw [e, ba_size]
  have := num_back (s := ⟨([120, 121] ++ (putNum n ++ [122])).toArray⟩) (k := 2) (n := n) (by rw [ba_size]; simp; omega) h0 h1 (fun i hi => by rw [byteAt_list, show 2 + i = [(120 : UInt8), 121].length + i from rfl, getD_mid _ _ _ _ hi]) (by rw [ba_size]; simp; omega)
  rw [show ((2 : Nat) : Int) = 2 from rfl] at this
  rw [this]
  congr 2
  omega
theorem nums_b {n : Int} (h0 : -9223372036854775808 ≤ n) (h1 : n ≤ 9223372036854775807) :
    numR ((⟨(putNum n).toArray⟩ : ByteArray).extract 0 ((⟨(putNum n).toArray⟩ : ByteArray).size - 1)) 0 = (0, 0, 4) := by
  have hl := putNum_len h0 h1
  have e : (⟨(putNum n).toArray⟩ : ByteArray).extract 0 ((⟨(putNum n).toArray⟩ : ByteArray).size - 1) = ⟨((putNum n).take ((putNum n).length - 1)).toArray⟩ := by
    apply ByteArray.ext; apply Array.ext'; rw [extract_data, ba_size]; simp
  rw [e]
  refine num_lacks (n := n) (by rw [ba_size]; simp; omega) h0 h1 (fun i hi => ?_) (by rw [ba_size]; simp; omega)
  rw [byteAt_list]
  simp only [List.getD]
  rw [List.getElem?_take, if_pos (by omega)]

theorem put_size {u : ByteArray} : ((⟨(putNum u.size).toArray⟩ : ByteArray) ++ u).size = (putNum u.size).length + u.size := by
  rw [ByteArray.size_append, ba_size]
theorem put_list (u : ByteArray) : (⟨(putNum u.size).toArray⟩ : ByteArray) ++ u = ⟨(putNum u.size ++ u.data.toList).toArray⟩ := by
  apply ByteArray.ext; simp [ByteArray.data_append]

theorem texts_a {u : ByteArray} (h : (((⟨(putNum u.size).toArray⟩ : ByteArray) ++ u).size : Int) + 1 ≤ 20000) :
    textOf (⟨#[120]⟩ ++ ((⟨(putNum u.size).toArray⟩ : ByteArray) ++ u)) (numR (⟨#[120]⟩ ++ ((⟨(putNum u.size).toArray⟩ : ByteArray) ++ u)) 1) = (u, (((⟨(putNum u.size).toArray⟩ : ByteArray) ++ u).size : Int) + 1, 0) := by
  rw [put_size] at h ⊢
  have hl := putNum_len (n := u.size) (by omega) (by omega)
  have hu : u.data.toList.length = u.size := by simp
  have e : (⟨#[120]⟩ ++ ((⟨(putNum u.size).toArray⟩ : ByteArray) ++ u)) = ⟨([120] ++ (putNum u.size ++ u.data.toList)).toArray⟩ := by
    rw [put_list]; apply ByteArray.ext; simp [ByteArray.data_append]
  rw [e]
  have hz : (⟨([120] ++ (putNum u.size ++ u.data.toList)).toArray⟩ : ByteArray).size = 1 + ((putNum u.size).length + u.size) := by
    rw [ba_size, List.length_append, List.length_append, hu]; rfl
  have hn := num_back (s := ⟨([120] ++ (putNum u.size ++ u.data.toList)).toArray⟩) (k := 1) (n := u.size) (by rw [hz]; omega) (by omega) (by omega) (fun i hi => by rw [byteAt_list, show 1 + i = [(120 : UInt8)].length + i from rfl, getD_mid _ _ _ _ hi]) (by rw [hz]; omega)
  rw [show ((1 : Nat) : Int) = 1 from rfl] at hn
  rw [hn]
  unfold textOf
  rw [if_neg (by simp), if_neg (by show ¬ ((u.size : Int) < 0 ∨ 20000 < (u.size : Int)); omega), hz, if_neg (by show ¬ (((1 + ((putNum u.size).length + u.size) : Nat) : Int) - (u.size : Int) < 1 + ((putNum u.size).length : Int)); omega)]
  have ex : (⟨([120] ++ (putNum u.size ++ u.data.toList)).toArray⟩ : ByteArray).extract ((1 + ((putNum u.size).length : Int)).toNat) ((1 + ((putNum u.size).length : Int) + (u.size : Int)).toNat) = u := by
    apply ByteArray.ext; apply Array.ext'
    rw [extract_data, show (1 + ((putNum u.size).length : Int)).toNat = ([(120 : UInt8)] ++ putNum u.size).length by simp; omega]
    show List.take _ (List.drop _ ([120] ++ (putNum u.size ++ u.data.toList))) = _
    rw [← List.append_assoc, List.drop_left]
    exact List.take_of_length_le (by rw [hu]; simp; omega)
  dsimp only
  rw [ex]
  have en : 1 + ((putNum u.size).length : Int) + (u.size : Int) = (((putNum u.size).length + u.size : Nat) : Int) + 1 := by omega
  rw [en]
theorem texts_b {u : ByteArray} (h : u.size ≤ 20000) :
    textOf ((((⟨(putNum u.size).toArray⟩ : ByteArray) ++ u)).extract 0 ((((⟨(putNum u.size).toArray⟩ : ByteArray) ++ u)).size - 1)) (numR ((((⟨(putNum u.size).toArray⟩ : ByteArray) ++ u)).extract 0 ((((⟨(putNum u.size).toArray⟩ : ByteArray) ++ u)).size - 1)) 0) = (⟨#[]⟩, 0, 4) ∨ 19999 < ((((⟨(putNum u.size).toArray⟩ : ByteArray) ++ u)).size : Int) := by
  by_cases hbig : 19999 < ((((⟨(putNum u.size).toArray⟩ : ByteArray) ++ u)).size : Int)
  · exact .inr hbig
  refine .inl ?_
  rw [put_size] at hbig ⊢
  have hl := putNum_len (n := u.size) (by omega) (by omega)
  have hu : u.data.toList.length = u.size := by simp
  have e : (((⟨(putNum u.size).toArray⟩ : ByteArray) ++ u)).extract 0 ((putNum u.size).length + u.size - 1) = ⟨((putNum u.size ++ u.data.toList).take ((putNum u.size).length + u.size - 1)).toArray⟩ := by
    rw [put_list]; apply ByteArray.ext; apply Array.ext'; rw [extract_data]; simp
  rw [e]
  have hz : (⟨((putNum u.size ++ u.data.toList).take ((putNum u.size).length + u.size - 1)).toArray⟩ : ByteArray).size = (putNum u.size).length + u.size - 1 := by
    rw [ba_size, List.length_take, List.length_append, hu]; omega
  by_cases h0 : u.size = 0
  · have hn := num_lacks (s := ⟨((putNum u.size ++ u.data.toList).take ((putNum u.size).length + u.size - 1)).toArray⟩) (n := u.size) (by rw [hz]; omega) (by omega) (by omega) (fun i hi => by
      rw [byteAt_list]; simp only [List.getD]; rw [List.getElem?_take, if_pos (by omega), List.getElem?_append_left (by omega)]) (by rw [hz]; omega)
    rw [hn]
    unfold textOf
    rw [if_pos (by simp)]
  · have hn := num_back (s := ⟨((putNum u.size ++ u.data.toList).take ((putNum u.size).length + u.size - 1)).toArray⟩) (k := 0) (n := u.size) (by rw [hz]; omega) (by omega) (by omega) (fun i hi => by
      rw [byteAt_list, Nat.zero_add]; simp only [List.getD]; rw [List.getElem?_take, if_pos (by omega), List.getElem?_append_left (by omega)]) (by rw [hz]; omega)
    rw [show ((0 : Nat) : Int) = 0 from rfl] at hn
    rw [hn]
    unfold textOf
    rw [if_neg (by simp), if_neg (by show ¬ ((u.size : Int) < 0 ∨ 20000 < (u.size : Int)); omega), hz, if_pos (by show (((putNum u.size).length + u.size - 1 : Nat) : Int) - (u.size : Int) < 0 + ((putNum u.size).length : Int); omega)]
end Go.Proofs.YtbaodgjkplhmaaaDoor
