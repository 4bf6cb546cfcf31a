/-
  A fraud comes back from its bytes: the mathematics.
-/
import Derived.Test.YtpglcbidfghfkaaPkNumsPure
import Derived.Test.YtpglcbidfghfkaaPkHdBy
import Derived.Test.YtpglcbidfghfkaaPkTextRows
namespace Go.Proofs.Ytpglcbidfghfkaa
open Go.RowKit Go.Lib
set_option linter.unusedVariables false
set_option linter.unusedSimpArgs false

/-- The bytes of u stand at place k of s. -/
def Has (s : ByteArray) (k : Nat) (u : ByteArray) : Prop := k + u.size ≤ s.size ∧ ∀ i, i < u.size → byteAt s (k + i) = byteAt u i
theorem byteAt_left (u v : ByteArray) {i : Nat} (h : i < u.size) : byteAt (u ++ v) i = byteAt u i := by
  unfold byteAt
  rw [ByteArray.data_append, Array.toList_append]
  simp only [List.getD]
  rw [List.getElem?_append_left (by simpa using h)]
theorem byteAt_right (u v : ByteArray) (i : Nat) : byteAt (u ++ v) (u.size + i) = byteAt v i := by
  unfold byteAt
  rw [ByteArray.data_append, Array.toList_append]
  simp only [List.getD]
  rw [List.getElem?_append_right (by simp)]
  simp
theorem Has.left {s u v : ByteArray} {k : Nat} (h : Has s k (u ++ v)) : Has s k u := by
  obtain ⟨h1, h2⟩ := h
  rw [ba_size] at h1 h2
  exact ⟨by omega, fun i hi => (h2 i (by omega)).trans (byteAt_left u v hi)⟩
theorem Has.right {s u v : ByteArray} {k : Nat} (h : Has s k (u ++ v)) : Has s (k + u.size) v := by
  obtain ⟨h1, h2⟩ := h
  rw [ba_size] at h1 h2
  refine ⟨by omega, fun i hi => ?_⟩
  have := h2 (u.size + i) (by omega)
  rw [byteAt_right] at this
  rw [Nat.add_assoc]
  exact this
theorem Has.self (s : ByteArray) : Has s 0 s := ⟨by omega, fun i _ => by rw [Nat.zero_add]⟩
theorem extract_list (s : ByteArray) (a b : Nat) : (s.extract a b).data.toList = (s.data.toList.drop a).take (b - a) := by
  simp [ByteArray.data_extract, List.extract_eq_take_drop]
theorem Has.extract {s t : ByteArray} {a : Nat} (h : Has s a t) : s.extract a (a + t.size) = t := by
  obtain ⟨h1, h2⟩ := h
  apply ByteArray.ext; apply Array.ext'
  rw [extract_list]
  have hs : s.data.toList.length = s.size := by simp
  have ht : t.data.toList.length = t.size := by simp
  refine List.ext_getElem (by rw [List.length_take, List.length_drop, hs, ht]; omega) fun i hi hj => ?_
  rw [ht] at hj
  have := h2 i hj
  unfold byteAt at this
  simp only [List.getD] at this
  rw [List.getElem?_eq_getElem (by rw [hs]; omega), List.getElem?_eq_getElem (by rw [ht]; omega)] at this
  simp only [Option.getD_some] at this
  rw [List.getElem_take, List.getElem_drop]
  exact UInt8.toNat_inj.1 (by omega)
theorem byteAt_numT (n : Int) (i : Nat) : byteAt (numT n) i = (((putNum n).getD i 0).toNat : Int) := by unfold byteAt numT; simp
theorem numT_len (n : Int) : (numT n).size = (putNum n).length := by simp [numT, ByteArray.size]
def I64 (n : Int) : Prop := -9223372036854775808 ≤ n ∧ n ≤ 9223372036854775807
theorem num_has {s : ByteArray} {k : Nat} {n : Int} (hs : ¬ 20000 < (s.size : Int)) (hn : I64 n) (h : Has s k (numT n)) : numR s k = (n, ((k + (numT n).size : Nat) : Int), 0) := by
  obtain ⟨h1, h2⟩ := h
  rw [numT_len] at h1 h2
  rw [num_back hs hn.1 hn.2 (fun i hi => (h2 i hi).trans (byteAt_numT n i)) h1, numT_len]
  rfl
theorem putText_of {t : ByteArray} (h : t.size ≤ 20000) : putText t = numT t.size ++ t := by
  unfold putText
  rw [if_neg (by omega)]
  rfl
theorem text_has {s : ByteArray} {k : Nat} {t : ByteArray} (hs : ¬ 20000 < (s.size : Int)) (ht : t.size ≤ 20000) (h : Has s k (putText t)) : textOf s (numR s k) = (t, ((k + (putText t).size : Nat) : Int), 0) := by
  rw [putText_of ht] at h ⊢
  have hr := h.right
  rw [num_has hs ⟨by omega, by omega⟩ h.left]
  have h3 := hr.1
  have hx := hr.extract
  unfold textOf
  dsimp only
  rw [if_neg (by simp), if_neg (by omega), if_neg (by omega), ba_size]
  rw [show ((k + (numT t.size).size : Nat) : Int).toNat = k + (numT t.size).size by omega, show (((k + (numT t.size).size : Nat) : Int) + (t.size : Int)).toNat = k + (numT t.size).size + t.size by omega, hx]
  exact congrArg (fun z : Int => (t, z, (0 : Int))) (by omega)

/-- Reading goes from field to field; from none (something was wrong) nothing is read. -/
def rdNum (s : ByteArray) : Option Int → Int × Option Int
  | none => (0, none)
  | some k => if (numR s k).2.2 = 0 then ((numR s k).1, some (numR s k).2.1) else (0, none)
def rdText (s : ByteArray) : Option Int → ByteArray × Option Int
  | none => (⟨#[]⟩, none)
  | some k => if (textOf s (numR s k)).2.2 = 0 then ((textOf s (numR s k)).1, some (textOf s (numR s k)).2.1) else (⟨#[]⟩, none)
def rdTexts (s : ByteArray) (st : Option Int) : Nat → List ByteArray × Option Int
  | 0 => ([], st)
  | n + 1 => ((rdTexts s st n).1 ++ [(rdText s (rdTexts s st n).2).1], (rdText s (rdTexts s st n).2).2)
theorem rdNum_ok {s : ByteArray} {k : Int} (h : (numR s k).2.2 = 0) : rdNum s (some k) = ((numR s k).1, some (numR s k).2.1) := by
  show (if (numR s k).2.2 = 0 then ((numR s k).1, some (numR s k).2.1) else (0, none)) = _
  rw [if_pos h]
theorem rdNum_bad {s : ByteArray} {k : Int} (h : ¬ (numR s k).2.2 = 0) : rdNum s (some k) = (0, none) := by
  show (if (numR s k).2.2 = 0 then ((numR s k).1, some (numR s k).2.1) else (0, none)) = _
  rw [if_neg h]
theorem rdText_ok {s : ByteArray} {k : Int} (h : (textOf s (numR s k)).2.2 = 0) : rdText s (some k) = ((textOf s (numR s k)).1, some (textOf s (numR s k)).2.1) := by
  show (if (textOf s (numR s k)).2.2 = 0 then ((textOf s (numR s k)).1, some (textOf s (numR s k)).2.1) else (⟨#[]⟩, none)) = _
  rw [if_pos h]
theorem rdText_bad {s : ByteArray} {k : Int} (h : ¬ (textOf s (numR s k)).2.2 = 0) : rdText s (some k) = (⟨#[]⟩, none) := by
  show (if (textOf s (numR s k)).2.2 = 0 then ((textOf s (numR s k)).1, some (textOf s (numR s k)).2.1) else (⟨#[]⟩, none)) = _
  rw [if_neg h]
theorem rdTexts_length (s : ByteArray) (st : Option Int) (n : Nat) : (rdTexts s st n).1.length = n := by
  induction n with
  | zero => rfl
  | succ n ih => simp [rdTexts, ih]
theorem rdTexts_none {s : ByteArray} {st : Option Int} {n : Nat} (h : (rdTexts s st n).2 = none) : ∀ m, (rdTexts s st (n + m)).2 = none := by
  intro m
  induction m with
  | zero => exact h
  | succ m ih => show (rdText s (rdTexts s st (n + m)).2).2 = none; rw [ih]; rfl
theorem rdNum_has {s : ByteArray} {k : Nat} {n : Int} (hs : ¬ 20000 < (s.size : Int)) (hn : I64 n) (h : Has s k (numT n)) : rdNum s (some (k : Int)) = (n, some ((k + (numT n).size : Nat) : Int)) := by
  show (if (numR s (k : Int)).2.2 = 0 then ((numR s (k : Int)).1, some (numR s (k : Int)).2.1) else (0, none)) = _
  rw [num_has hs hn h]
  rfl
theorem rdText_has {s : ByteArray} {k : Nat} {t : ByteArray} (hs : ¬ 20000 < (s.size : Int)) (ht : t.size ≤ 20000) (h : Has s k (putText t)) : rdText s (some (k : Int)) = (t, some ((k + (putText t).size : Nat) : Int)) := by
  show (if (textOf s (numR s (k : Int))).2.2 = 0 then ((textOf s (numR s (k : Int))).1, some (textOf s (numR s (k : Int))).2.1) else (⟨#[]⟩, none)) = _
  rw [text_has hs ht h]
  rfl
theorem ba_empty (u : ByteArray) : u ++ ⟨#[]⟩ = u := by apply ByteArray.ext; simp [ByteArray.data_append]
theorem empty_ba (u : ByteArray) : (⟨#[]⟩ : ByteArray) ++ u = u := by apply ByteArray.ext; simp [ByteArray.data_append]
theorem ba_assoc (a b c : ByteArray) : a ++ b ++ c = a ++ (b ++ c) := by apply ByteArray.ext; simp [ByteArray.data_append]
theorem putAllOn_row (l : List ByteArray) : ∀ row : ByteArray, putAllOn row l = row ++ putAllOn ⟨#[]⟩ l := by
  induction l with
  | nil => intro row; exact (ba_empty row).symm
  | cons t l ih =>
    intro row
    show putAllOn (row ++ putText t) l = row ++ putAllOn (⟨#[]⟩ ++ putText t) l
    rw [ih, ih (⟨#[]⟩ ++ putText t), empty_ba, ba_assoc]
theorem Has.at {s u : ByteArray} {k k' : Nat} (h : Has s k u) (e : k = k') : Has s k' u := e ▸ h
theorem rdTexts_has {s : ByteArray} {k : Nat} {l : List ByteArray} (hs : ¬ 20000 < (s.size : Int)) (hl : ∀ t ∈ l, t.size ≤ 100) (h : Has s k (putAllOn ⟨#[]⟩ l)) :
    rdTexts s (some (k : Int)) l.length = (l, some ((k + (putAllOn ⟨#[]⟩ l).size : Nat) : Int)) := by
  have key : ∀ j, j ≤ l.length → Has s k (putAllOn ⟨#[]⟩ (l.take j)) → rdTexts s (some (k : Int)) j = (l.take j, some ((k + (putAllOn ⟨#[]⟩ (l.take j)).size : Nat) : Int)) := by
    intro j
    induction j with
    | zero => intro _ _; rfl
    | succ j ih =>
      intro hj hh
      rw [putAllOn_succ _ (show j < l.length by omega)] at hh ⊢
      show ((rdTexts s (some (k : Int)) j).1 ++ [(rdText s (rdTexts s (some (k : Int)) j).2).1], (rdText s (rdTexts s (some (k : Int)) j).2).2) = _
      rw [ih (by omega) hh.left]
      dsimp only
      have hm := hl l[j] (List.getElem_mem _)
      rw [rdText_has hs (by omega) hh.right, ba_size, List.take_succ_eq_append_getElem (show j < l.length by omega), Nat.add_assoc]
  have := key l.length (Nat.le_refl _) (by rw [List.take_length]; exact h)
  rw [List.take_length] at this
  exact this
/-- A head that is read: it, whether what is signed of it was well (some), and the place behind it. -/
def headAt (s : ByteArray) (st : Option Int) : Hd × Option Int × Option Int :=
  let t := rdText s st
  let a := rdText t.1 (some 0)
  let b := rdNum t.1 a.2
  let c := rdText t.1 b.2
  let d := rdNum t.1 c.2
  let k := rdNum s t.2
  let e := rdTexts s k.2 6
  let p := rdTexts s e.2 2
  (⟨a.1, c.1, b.1, d.1, k.1, e.1, p.1⟩, d.2, p.2)
theorem claimB_headT {log root : ByteArray} {size time : Int} (h : claimB log size root time = true) : (headT log size root time).size ≤ 200 := by
  obtain ⟨h1, h2, h3, h4⟩ := claimB_yes h
  unfold headT
  rw [ba_size, ba_size, ba_size]
  have hn := (nameB_yes h1).2
  have e1 := putText_small (t := log) (by omega)
  have e2 := putText_small (t := root) (by omega)
  rw [putText_of (by omega), ba_size] at e1 e2 ⊢
  rw [putText_of (by omega), ba_size]
  have := numT_size log.size
  have := numT_size root.size
  have := numT_size size
  have := numT_size time
  omega
theorem right_claim {x : Hd} (h : x.right = true) : claimB x.log x.size x.root x.time = true := by
  unfold Hd.right headRB at h
  exact (Bool.and_eq_true_iff.1 h).1
/-- What is signed of a right head is read back from it. -/
theorem inner_has {log root T : ByteArray} {size time : Int} (hc : claimB log size root time = true) (hT : T = headT log size root time) :
    ∃ a b c : Option Int, rdText T (some 0) = (log, a) ∧ rdNum T a = (size, b) ∧ rdText T b = (root, c) ∧ rdNum T c = (time, some (T.size : Int)) := by
  obtain ⟨h1, h2, h3, h4⟩ := claimB_yes hc
  have hn := (nameB_yes h1).2
  have hz := claimB_headT hc
  rw [← hT] at hz
  have hT20 : ¬ 20000 < (T.size : Int) := by omega
  have hsT : Has T 0 (putText log ++ numT size ++ putText root ++ numT time) := by
    have e : T = putText log ++ numT size ++ putText root ++ numT time := hT
    rw [← e]; exact Has.self T
  have a1 := rdText_has hT20 (show log.size ≤ 20000 by omega) hsT.left.left.left
  have a2 := rdNum_has hT20 (show I64 size from ⟨by omega, by omega⟩) (hsT.left.left.right)
  have a3 := rdText_has hT20 (show root.size ≤ 20000 by omega) (hsT.left.right.at (show 0 + (putText log ++ numT size).size = 0 + (putText log).size + (numT size).size by rw [ba_size]; omega))
  have a4 := rdNum_has hT20 (show I64 time from ⟨by omega, by omega⟩) (hsT.right.at (show 0 + (putText log ++ numT size ++ putText root).size = 0 + (putText log).size + (numT size).size + (putText root).size by rw [ba_size, ba_size]; omega))
  have hTz : 0 + (putText log).size + (numT size).size + (putText root).size + (numT time).size = T.size := by
    have e : T = putText log ++ numT size ++ putText root ++ numT time := hT
    rw [e, ba_size, ba_size, ba_size]; omega
  rw [hTz] at a4
  exact ⟨_, _, _, a1, a2, a3, a4⟩
theorem head_has {s : ByteArray} {k : Nat} {x : Hd} (hs : ¬ 20000 < (s.size : Int)) (hx : x.right = true) (h : Has s k x.bytes) : headAt s (some (k : Int)) = (x, some ((headT x.log x.size x.root x.time).size : Int), some ((k + x.bytes.size : Nat) : Int)) := by
  have hc := right_claim hx
  obtain ⟨a, b, c, a1, a2, a3, a4⟩ := inner_has hc rfl
  obtain ⟨g1, g2, g3, g4, g5⟩ := sigRB_yes (headRB_sig hx)
  have hz := claimB_headT hc
  have he : x.bytes = putText (headT x.log x.size x.root x.time) ++ numT x.k ++ putAllOn ⟨#[]⟩ x.el ++ putAllOn ⟨#[]⟩ x.pl := by
    unfold Hd.bytes headBy
    rw [putAllOn_row, putAllOn_row x.el]
  rw [he] at h ⊢
  generalize headT x.log x.size x.root x.time = T at *
  have b1 := rdText_has hs (show T.size ≤ 20000 by omega) h.left.left.left
  have b2 := rdNum_has hs (show I64 x.k from ⟨by omega, by omega⟩) h.left.left.right
  have b3 := rdTexts_has hs (wide_small g4) (h.left.right.at (show k + (putText T ++ numT x.k).size = k + (putText T).size + (numT x.k).size by rw [ba_size]; omega))
  have b4 := rdTexts_has hs (wide_small g5) (h.right.at (show k + (putText T ++ numT x.k ++ putAllOn ⟨#[]⟩ x.el).size = k + (putText T).size + (numT x.k).size + (putAllOn ⟨#[]⟩ x.el).size by rw [ba_size, ba_size]; omega))
  rw [g2] at b3
  rw [g3] at b4
  have hsz : k + (putText T ++ numT x.k ++ putAllOn ⟨#[]⟩ x.el ++ putAllOn ⟨#[]⟩ x.pl).size = k + (putText T).size + (numT x.k).size + (putAllOn ⟨#[]⟩ x.el).size + (putAllOn ⟨#[]⟩ x.pl).size := by rw [ba_size, ba_size, ba_size]; omega
  rw [hsz]
  unfold headAt
  simp only [b1, a1, a2, a3, a4, b2, b3, b4]
/-- A fraud that is read: both heads, the entries, the place behind it. -/
def entAt (s : ByteArray) (st : Option Int) : List ByteArray × Option Int := rdTexts s (rdNum s st).2 (rdNum s st).1.toNat
def headsAt (s : ByteArray) : (Hd × Option Int × Option Int) × (Hd × Option Int × Option Int) := (headAt s (some 0), headAt s (headAt s (some 0)).2.2)
def fraudAt (s : ByteArray) : List ByteArray × Option Int := entAt s (headsAt s).2.2.2
theorem fraud_has {x y : Hd} {l : List ByteArray} {s : ByteArray} (hs : ¬ 20000 < (s.size : Int)) (hx : x.right = true) (hy : y.right = true) (hl : rightB l = true) (e : s = fraudBy x.bytes y.bytes l) :
    (headsAt s).1.1 = x ∧ (headsAt s).1.2.1 ≠ none ∧ (headsAt s).2.1 = y ∧ (headsAt s).2.2.1 ≠ none ∧ (fraudAt s).1 = l ∧ (fraudAt s).2 ≠ none := by
  have hh : Has s 0 (x.bytes ++ y.bytes ++ numT l.length ++ putAllOn ⟨#[]⟩ l) := by
    have h0 := Has.self s
    have e2 : s = x.bytes ++ y.bytes ++ numT l.length ++ putAllOn ⟨#[]⟩ l := by
      rw [e]; unfold fraudBy; rw [putAllOn_row]
    rw [← e2]; exact h0
  have hll := rightB_len hl
  have h1 := head_has hs hx hh.left.left.left
  have h2 := head_has hs hy hh.left.left.right
  have h3 := rdNum_has hs (show I64 (l.length : Int) from ⟨by omega, by omega⟩) (hh.left.right.at (show 0 + (x.bytes ++ y.bytes).size = 0 + x.bytes.size + y.bytes.size by rw [ba_size]; omega))
  have h4 := rdTexts_has hs (right_small hl) (hh.right.at (show 0 + (x.bytes ++ y.bytes ++ numT l.length).size = 0 + x.bytes.size + y.bytes.size + (numT l.length).size by rw [ba_size, ba_size]; omega))
  rw [show (((0 : Nat)) : Int) = 0 from rfl] at h1
  have e5 : ((l.length : Nat) : Int).toNat = l.length := rfl
  unfold fraudAt headsAt entAt
  simp only [h1, h2, h3, e5, h4]
  simp
/-- Is the text the bytes of the fraud that is read of it? -/
def fraudOk (s : ByteArray) : Bool := (fraudAt s).2.isSome && decide (fraudT (headsAt s).1.1.right (headsAt s).2.1.right (headsAt s).1.1.bytes (headsAt s).2.1.bytes (fraudAt s).1 = s)
theorem rdTexts_stuck (s : ByteArray) (n : Nat) : (rdTexts s none n).2 = none := by
  have := rdTexts_none (s := s) (st := none) (n := 0) rfl n
  rwa [Nat.zero_add] at this
theorem headAt_stuck (s : ByteArray) : (headAt s none).2.2 = none := by
  show (rdTexts s (rdTexts s none 6).2 2).2 = none
  rw [rdTexts_stuck, rdTexts_stuck]
theorem headAt_text {s : ByteArray} {st : Option Int} (h : (rdText s st).2 = none) : (headAt s st).2.2 = none := by
  show (rdTexts s (rdTexts s (rdNum s (rdText s st).2).2 6).2 2).2 = none
  rw [h]
  show (rdTexts s (rdTexts s none 6).2 2).2 = none
  rw [rdTexts_stuck, rdTexts_stuck]
theorem entAt_stuck (s : ByteArray) : (entAt s none).2 = none := rdTexts_stuck s _
theorem fraudAt_heads {s : ByteArray} (h : (fraudAt s).2 ≠ none) : (headsAt s).1.2.2 ≠ none ∧ (headsAt s).2.2.2 ≠ none := by
  refine ⟨fun e => h ?_, fun e => h ?_⟩
  · have e' : (headAt s (some 0)).2.2 = none := e
    show (entAt s (headAt s (headAt s (some 0)).2.2).2.2).2 = none
    rw [e', headAt_stuck, entAt_stuck]
  · show (entAt s (headsAt s).2.2.2).2 = none
    rw [e, entAt_stuck]
theorem numR_empty (k : Int) (hk : 0 ≤ k) : (numR ⟨#[]⟩ k).2.2 = 4 := by
  unfold numR
  rw [if_neg (by decide), if_neg (by omega), show (10 : Nat) = 9 + 1 from rfl, getF_short 0 (Nat.zero_le _)]
/-- What is the bytes of the fraud that is read of it has no fault in what is signed of its heads, and is not empty. -/
theorem fraudOk_inner {s : ByteArray} (hs : ¬ 20000 < (s.size : Int)) (h : fraudOk s = true) : (headsAt s).1.2.1 ≠ none ∧ (headsAt s).2.2.1 ≠ none ∧ s ≠ ⟨#[]⟩ := by
  unfold fraudOk at h
  rw [Bool.and_eq_true_iff] at h
  obtain ⟨h1, h2⟩ := h
  have h2 := of_decide_eq_true h2
  have hne : s ≠ ⟨#[]⟩ := by
    rintro rfl
    have h0 : (fraudAt ⟨#[]⟩).2 ≠ none := by intro e; rw [e] at h1; exact absurd h1 (by simp)
    refine (fraudAt_heads h0).1 (headAt_text ?_)
    show (rdText ⟨#[]⟩ (some 0)).2 = none
    have e4 := numR_empty 0 (Int.le_refl _)
    have : (textOf ⟨#[]⟩ (numR ⟨#[]⟩ 0)).2.2 ≠ 0 := by
      unfold textOf
      rw [if_pos (by rw [e4]; decide)]
      show (numR ⟨#[]⟩ 0).2.2 ≠ 0
      rw [e4]; decide
    show (if (textOf ⟨#[]⟩ (numR ⟨#[]⟩ 0)).2.2 = 0 then ((textOf ⟨#[]⟩ (numR ⟨#[]⟩ 0)).1, some (textOf ⟨#[]⟩ (numR ⟨#[]⟩ 0)).2.1) else (⟨#[]⟩, none)).2 = none
    rw [if_neg this]
  unfold fraudT at h2
  split at h2
  · rename_i hc
    rw [Bool.and_eq_true_iff, Bool.and_eq_true_iff] at hc
    obtain ⟨⟨r1, r2⟩, r3⟩ := hc
    obtain ⟨_, i1, _, i2, _, _⟩ := fraud_has hs r1 r2 r3 h2.symm
    exact ⟨i1, i2, hne⟩
  · exact absurd h2.symm hne

/-- Places that are read stay within the text; what is read is no longer than it. -/
def Within (s : ByteArray) (st : Option Int) : Prop := ∀ k, st = some k → 0 ≤ k ∧ k ≤ s.size
theorem rdNum_within (s : ByteArray) (st : Option Int) : Within s (rdNum s st).2 := by
  intro k h
  cases st with
  | none => exact absurd h (by simp [rdNum])
  | some k0 =>
    unfold rdNum at h
    dsimp only at h
    split at h
    · rename_i hc
      have := numR_place s k0 hc
      simp at h
      omega
    · exact absurd h (by simp)
theorem getF_on (s : ByteArray) : ∀ (f k : Nat) (u : Int), (getF s f k u).2.2 = 0 → (k : Int) < (getF s f k u).2.1 := by
  intro f
  induction f with
  | zero => intro k u h; exact absurd h (show ¬ (3 : Int) = 0 by decide)
  | succ f ih =>
    intro k u
    simp only [getF]
    split
    · intro h; exact absurd h (by decide)
    split
    · intro h; exact absurd h (by decide)
    split
    · split
      · intro h; exact absurd h (by decide)
      · intro _; show (k : Int) < (k : Int) + 1; omega
    · intro h
      have := ih (k + 1) _ h
      omega
theorem numR_on (s : ByteArray) (k : Int) (h : (numR s k).2.2 = 0) : k < (numR s k).2.1 := by
  revert h
  unfold numR
  split
  · intro h; exact absurd h (by decide)
  split
  · intro h; exact absurd h (by decide)
  · intro h; have := getF_on s _ _ _ h; omega
theorem textOf_on (s : ByteArray) (k : Int) (h : (textOf s (numR s k)).2.2 = 0) : k < (textOf s (numR s k)).2.1 ∧ 0 ≤ (textOf s (numR s k)).2.1 ∧ (textOf s (numR s k)).2.1 ≤ s.size := by
  revert h
  have hp := numR_place s k
  have ho := numR_on s k
  unfold textOf
  split
  · rename_i hc; intro h; exact absurd h hc
  split
  · intro h; exact absurd h (by decide)
  split
  · intro h; exact absurd h (by decide)
  · rename_i h1 h2 h3
    intro _
    have h1' : (numR s k).2.2 = 0 := Decidable.not_not.1 h1
    have := hp h1'
    have := ho h1'
    dsimp only
    omega
theorem rdText_within (s : ByteArray) (st : Option Int) : Within s (rdText s st).2 := by
  intro k h
  cases st with
  | none => exact absurd h (by simp [rdText])
  | some k0 =>
    unfold rdText at h
    dsimp only at h
    split at h
    · rename_i hc
      have := textOf_on s k0 hc
      simp at h
      omega
    · exact absurd h (by simp)
theorem rdText_on {s : ByteArray} {k k' : Int} (h : (rdText s (some k)).2 = some k') : k < k' := by
  unfold rdText at h
  dsimp only at h
  split at h
  · rename_i hc
    have := textOf_on s k hc
    simp at h
    omega
  · exact absurd h (by simp)
theorem textOf_size (s : ByteArray) (k : Int) : (textOf s (numR s k)).1.size ≤ s.size := by
  unfold textOf
  split
  · exact Nat.zero_le _
  split
  · exact Nat.zero_le _
  split
  · exact Nat.zero_le _
  · rw [ByteArray.size_extract]; omega
theorem rdText_size (s : ByteArray) (st : Option Int) : (rdText s st).1.size ≤ s.size := by
  cases st with
  | none => exact Nat.zero_le _
  | some k0 =>
    unfold rdText
    dsimp only
    split
    · exact textOf_size s k0
    · exact Nat.zero_le _
theorem rdTexts_within {s : ByteArray} {st : Option Int} (h : Within s st) : ∀ n, Within s (rdTexts s st n).2 := by
  intro n
  cases n with
  | zero => exact h
  | succ n => exact rdText_within s _
theorem rdTexts_on {s : ByteArray} {k : Int} : ∀ (n : Nat) (k' : Int), (rdTexts s (some k) n).2 = some k' → k + n ≤ k' := by
  intro n
  induction n with
  | zero => intro k' h; simp [rdTexts] at h; omega
  | succ n ih =>
    intro k' h
    have h' : (rdText s (rdTexts s (some k) n).2).2 = some k' := h
    cases hc : (rdTexts s (some k) n).2 with
    | none => rw [hc] at h'; exact absurd h' (by simp [rdText])
    | some m =>
      rw [hc] at h'
      have := rdText_on h'
      have := ih m hc
      omega
theorem unfoldU_le {u : Int} (h0 : 0 ≤ u) (h1 : u < 18446744073709551616) : unfoldU u ≤ 9223372036854775807 := by
  unfold unfoldU
  split <;> omega
theorem getF_num (s : ByteArray) : ∀ (f k : Nat) (u : Int), f ≤ 10 → 0 ≤ u → u < p7 (10 - f) → (getF s f k u).1 ≤ 9223372036854775807 := by
  intro f
  induction f with
  | zero => intro k u _ _ _; show (0 : Int) ≤ _; decide
  | succ f ih =>
    intro k u hf h0 h1
    have hc := byteAt_bd s k
    have e1 : 10 - (f + 1) = 9 - f := by omega
    rw [e1] at h1
    by_cases hk : s.size ≤ k
    · rw [getF_short u hk]; decide
    by_cases ht : f = 0 ∧ 1 < byteAt s k
    · obtain ⟨rfl, ht⟩ := ht
      rw [getF_tenth u hk ht]; decide
    by_cases hl : byteAt s k < 128
    · by_cases hz : byteAt s k = 0 ∧ f ≠ 9
      · rw [getF_zero u hk hz.1 hz.2]; decide
      · rw [getF_last u hk hl ht hz]
        show unfoldU (u + byteAt s k * p7 (9 - f)) ≤ _
        by_cases hf0 : f = 0
        · subst hf0
          have hc1 : byteAt s k ≤ 1 := by omega
          have e9 : p7 (9 - 0) = 9223372036854775808 := p7_nine
          rw [e9] at h1 ⊢
          exact unfoldU_le (by omega) (by omega)
        · have hb := step_bd h0 h1 hc.1 hl
          have h9 := p7_le9 (j := 9 - f + 1) (by omega)
          exact unfoldU_le hb.1 (by omega)
    · have hf0 : f ≠ 0 := fun e => ht ⟨e, by omega⟩
      rw [getF_more u hk (by omega) hf0]
      have hb := step_bd h0 h1 (c := byteAt s k - 128) (by omega) (by omega)
      exact ih (k + 1) _ (by omega) hb.1 (by rw [show 10 - f = 9 - f + 1 by omega]; exact hb.2)
theorem rdNum_le (s : ByteArray) (st : Option Int) : (rdNum s st).1 ≤ 9223372036854775807 := by
  cases st with
  | none => show (0 : Int) ≤ _; decide
  | some k =>
    by_cases h : (numR s k).2.2 = 0
    · rw [rdNum_ok h]
      show (numR s k).1 ≤ _
      unfold numR
      split
      · show (0 : Int) ≤ _; decide
      split
      · show (0 : Int) ≤ _; decide
      · exact getF_num s 10 _ 0 (Nat.le_refl _) (Int.le_refl _) (by show (0 : Int) < 1; decide)
    · rw [rdNum_bad h]; show (0 : Int) ≤ _; decide
end Go.Proofs.Ytpglcbidfghfkaa

/-
  What FraudRead answers.
-/
namespace Go.Proofs.Ytpglcbidfghfkaa
open Go.RowKit Go.Lib
set_option linter.unusedVariables false
set_option linter.unusedSimpArgs false

/-- The zero head. -/
def hd0 : Hd := ⟨⟨#[]⟩, ⟨#[]⟩, 0, 0, 0, [], []⟩
/-- The fraud that is read, and the code. -/
def frR (s : ByteArray) : Hd × Hd × List ByteArray × Int := if 20000 < (s.size : Int) then (hd0, hd0, [], 2) else if fraudOk s then ((headsAt s).1.1, (headsAt s).2.1, (fraudAt s).1, 0) else (hd0, hd0, [], 3)
theorem frR_big {s : ByteArray} (h : 20000 < (s.size : Int)) : frR s = (hd0, hd0, [], 2) := by unfold frR; rw [if_pos h]
theorem frR_yes {s : ByteArray} (h : ¬ 20000 < (s.size : Int)) (ho : fraudOk s = true) : frR s = ((headsAt s).1.1, (headsAt s).2.1, (fraudAt s).1, 0) := by unfold frR; rw [if_neg h, if_pos ho]
theorem frR_no {s : ByteArray} (h : ¬ 20000 < (s.size : Int)) (ho : ¬ fraudOk s = true) : frR s = (hd0, hd0, [], 3) := by unfold frR; rw [if_neg h, if_neg ho]
theorem ba_ne {a b : ByteArray} (h : ¬ a = b) : (a.toList == b.toList) = false := by
  rw [beq_eq_false_iff_ne, toList_data, toList_data]
  intro e
  exact h (ByteArray.ext (Array.toList_inj.1 e))
theorem fraudOk_iff (s : ByteArray) : fraudOk s = true ↔ (fraudAt s).2 ≠ none ∧ fraudT (headsAt s).1.1.right (headsAt s).2.1.right (headsAt s).1.1.bytes (headsAt s).2.1.bytes (fraudAt s).1 = s := by
  unfold fraudOk
  rw [Bool.and_eq_true_iff, decide_eq_true_iff, Option.isSome_iff_ne_none]
/-- Rows of texts that a call has made, one behind the other. -/
def Owns5 (w : World) (n0 n1 n2 n3 n4 : Nat) (v0 v1 v2 v3 v4 : Value) (l0 l1 l2 l3 l4 : List ByteArray) : Prop :=
  (OwnT w n0 v0 l0 ∧ OwnT w n1 v1 l1 ∧ OwnT w n2 v2 l2 ∧ OwnT w n3 v3 l3 ∧ OwnT w n4 v4 l4) ∧ ((∀ g, v0.ownBlock = some g → g < n1) ∧ (∀ g, v1.ownBlock = some g → g < n2) ∧ (∀ g, v2.ownBlock = some g → g < n3) ∧ (∀ g, v3.ownBlock = some g → g < n4)) ∧ (n0 ≤ n1 ∧ n1 ≤ n2 ∧ n2 ≤ n3 ∧ n3 ≤ n4 ∧ n4 ≤ w.heap.size)
theorem Owns5.below {w w' : World} {C n0 n1 n2 n3 n4 : Nat} {v0 v1 v2 v3 v4 : Value} {l0 l1 l2 l3 l4 : List ByteArray} (h : Owns5 w n0 n1 n2 n3 n4 v0 v1 v2 v3 v4 l0 l1 l2 l3 l4) (hb : Below C w w') (hC : w.heap.size ≤ C) : Owns5 w' n0 n1 n2 n3 n4 v0 v1 v2 v3 v4 l0 l1 l2 l3 l4 := by
  obtain ⟨⟨o1, o2, o3, o4, o5⟩, q, b1, b2, b3, b4, b5⟩ := h
  exact ⟨⟨o1.below hb hC, o2.below hb hC, o3.below hb hC, o4.below hb hC, o5.below hb hC⟩, q, b1, b2, b3, b4, Nat.le_trans b5 hb.size⟩
theorem Owns5.lower {w : World} {C n0 n1 n2 n3 n4 : Nat} {v0 v1 v2 v3 v4 : Value} {l0 l1 l2 l3 l4 : List ByteArray} (h : Owns5 w n0 n1 n2 n3 n4 v0 v1 v2 v3 v4 l0 l1 l2 l3 l4) (hC : C ≤ n0) : Owns5 w C n1 n2 n3 n4 v0 v1 v2 v3 v4 l0 l1 l2 l3 l4 := by
  obtain ⟨⟨o1, o2, o3, o4, o5⟩, q, b1, b2, b3, b4, b5⟩ := h
  exact ⟨⟨o1.lower hC, o2, o3, o4, o5⟩, q, Nat.le_trans hC b1, b2, b3, b4, b5⟩
theorem Owns5.nil (w : World) (B : Nat) (hB : B ≤ w.heap.size) : Owns5 w B B B B B (.slice none 0 0) (.slice none 0 0) (.slice none 0 0) (.slice none 0 0) (.slice none 0 0) [] [] [] [] [] := by
  have hz : ∀ g, (Value.slice none 0 0).ownBlock = some g → g < B := fun g hg => absurd hg (by simp [Value.ownBlock])
  exact ⟨⟨OwnT.nil _ _, OwnT.nil _ _, OwnT.nil _ _, OwnT.nil _ _, OwnT.nil _ _⟩, ⟨hz, hz, hz, hz⟩, Nat.le_refl _, Nat.le_refl _, Nat.le_refl _, Nat.le_refl _, hB⟩
/-- A fraud and a code in memory that the call has made. -/
def FrOut (s : ByteArray) (w : World) (e : Ending) (w' : World) : Prop :=
  ∃ (x y : Hd) (l : List ByteArray) (c : Int) (vex vpx vey vpy vl : Value) (n1 n2 n3 n4 : Nat), e = .returned (.agg #[.string x.log, .int .i64 x.size, .string x.root, .int .i64 x.time, .int .i64 x.k, vex, vpx, .string y.log, .int .i64 y.size, .string y.root, .int .i64 y.time, .int .i64 y.k, vey, vpy, vl, .int .i64 c]) ∧ (x, y, l, c) = frR s ∧ Owns5 w' w.heap.size n1 n2 n3 n4 vex vpx vey vpy vl x.el x.pl y.el y.pl l ∧ Below w.heap.size w w'
theorem FrOut.zero {s : ByteArray} {w w' : World} {c : Int} (h : frR s = (hd0, hd0, [], c)) (hb : Below w.heap.size w w') : FrOut s w (.returned (.agg #[.string ⟨#[]⟩, .int .i64 0, .string ⟨#[]⟩, .int .i64 0, .int .i64 0, .slice none 0 0, .slice none 0 0, .string ⟨#[]⟩, .int .i64 0, .string ⟨#[]⟩, .int .i64 0, .int .i64 0, .slice none 0 0, .slice none 0 0, .slice none 0 0, .int .i64 c])) w' :=
  ⟨hd0, hd0, [], c, _, _, _, _, _, _, _, _, _, rfl, h.symm, Owns5.nil w' w.heap.size hb.size, hb⟩
end Go.Proofs.Ytpglcbidfghfkaa
