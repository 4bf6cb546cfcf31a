/-
  Is a head of a watch's log, and good under its key? The document's test.
-/
import Derived.Test.YtcenlgfopmahcaaGreatDoorPkSpecVerify
import Derived.Test.YtcenlgfopmahcaaGreatDoorPkSigned
import Derived.Test.YtcenlgfopmahcaaGreatDoorPkCopyHead
import Derived.Test.YtcenlgfopmahcaaGreatDoorPkImplTree
import Derived.Test.YtcenlgfopmahcaaGreatDoorPkShaPure
import Derived.Test.YtcenlgfopmahcaaGreatDoorPkSpecMac
import Derived.Test.YtcenlgfopmahcaaGreatDoorPkStepLaws
import Derived.Test.YtcenlgfopmahcaaGreatDoorPkCells
import Derived.Test.YtcenlgfopmahcaaGreatDoorPkImplShares
import Derived.Test.YtcenlgfopmahcaaGreatDoorRows
import Derived.WalkKit
import Derived.WalkSpells
import Derived.Deep.RegionWith
namespace Go.Proofs.YtcenlgfopmahcaaGreatDoor
open Go.RowKit Go.Lib
set_option linter.unusedVariables false
set_option linter.unusedSimpArgs false

set_option maxHeartbeats 4000000 in
set_option maxRecDepth 10000 in
theorem specGood_any (t : Wt) (a0 a1 a2 ap a3 a4 a5 a6 a7 : Option Addr) (m0 m1 m2 mp m3 m4 m5 m6 m7 c0 c1 c2 cp c3 c4 c5 c6 c7 : Nat) (x : Hd) (ve vp : Value) (w : World) (hx : x.In ve vp w w.heap.size) (hl : x.Lim) (hn : x.Num) (hk : t.key.size ≤ 1048576) :
    Calls Tryz.prog 38 #[.agg #[.string t.log, .string t.key, .slice a0 m0 c0, .string t.h.log, .int .i64 t.h.size, .string t.h.root, .int .i64 t.h.time, .int .i64 t.h.k, .slice a1 m1 c1, .slice a2 m2 c2, .slice ap mp cp, .bool t.found, .string t.a.log, .int .i64 t.a.size, .string t.a.root, .int .i64 t.a.time, .int .i64 t.a.k, .slice a3 m3 c3, .slice a4 m4 c4, .string t.b.log, .int .i64 t.b.size, .string t.b.root, .int .i64 t.b.time, .int .i64 t.b.k, .slice a5 m5 c5, .slice a6 m6 c6, .slice a7 m7 c7], .agg #[.string x.log, .int .i64 x.size, .string x.root, .int .i64 x.time, .int .i64 x.k, ve, vp]] w fun e w' => e = .returned (.bool (sgB t.log t.key x)) ∧ Below w.heap.size w w' := by
  obtain ⟨a, c, b, d, rfl, rfl⟩ := hx.parts
  obtain ⟨W, hW⟩ : ∃ W, W = (w.alloc (.cells #[.string t.log, .string t.key, .slice a0 m0 c0, .string t.h.log, .int .i64 t.h.size, .string t.h.root, .int .i64 t.h.time, .int .i64 t.h.k, .slice a1 m1 c1, .slice a2 m2 c2, .slice ap mp cp, .bool t.found, .string t.a.log, .int .i64 t.a.size, .string t.a.root, .int .i64 t.a.time, .int .i64 t.a.k, .slice a3 m3 c3, .slice a4 m4 c4, .string t.b.log, .int .i64 t.b.size, .string t.b.root, .int .i64 t.b.time, .int .i64 t.b.k, .slice a5 m5 c5, .slice a6 m6 c6, .slice a7 m7 c7] 41)).alloc (.cells #[.string x.log, .int .i64 x.size, .string x.root, .int .i64 x.time, .int .i64 x.k, .slice a x.el.length c, .slice b x.pl.length d] 37) := ⟨_, rfl⟩
  have hbW : Below w.heap.size w W := by rw [hW]; exact ((Below.refl _ _).alloc (Nat.le_refl _) _).alloc (by simp) _
  have E0 : Hid (Calls Tryz.prog 52 #[.string t.key, .agg #[.string x.log, .int .i64 x.size, .string x.root, .int .i64 x.time, .int .i64 x.k, .slice a x.el.length c, .slice b x.pl.length d]] W fun e w' => e = .returned (.bool (headGB t.key x.log x.size x.root x.time x.k x.el x.pl)) ∧ Below W.heap.size W w') := specHeadGood_any t.key x.log x.root x.size x.time x.k _ _ x.el x.pl W (hx.on hbW).1 (hx.on hbW).2 hl.2.2.1 hl.2.2.2 hl.1 hl.2.1 hk hn.1 hn.2
  have H0 : Hid (Below w.heap.size w W) := hbW
  have HW : Hid (W = (w.alloc (.cells #[.string t.log, .string t.key, .slice a0 m0 c0, .string t.h.log, .int .i64 t.h.size, .string t.h.root, .int .i64 t.h.time, .int .i64 t.h.k, .slice a1 m1 c1, .slice a2 m2 c2, .slice ap mp cp, .bool t.found, .string t.a.log, .int .i64 t.a.size, .string t.a.root, .int .i64 t.a.time, .int .i64 t.a.k, .slice a3 m3 c3, .slice a4 m4 c4, .string t.b.log, .int .i64 t.b.size, .string t.b.root, .int .i64 t.b.time, .int .i64 t.b.k, .slice a5 m5 c5, .slice a6 m6 c6, .slice a7 m7 c7] 41)).alloc (.cells #[.string x.log, .int .i64 x.size, .string x.root, .int .i64 x.time, .int .i64 x.k, .slice a x.el.length c, .slice b x.pl.length d] 37)) := hW
  clear hx hl hn hk hW hbW
  unfold sgB
  generalize headGB t.key x.log x.size x.root x.time x.k x.el x.pl = G at *
  cases hq : (x.log.toList == t.log.toList) with
  | false =>
    clear E0
    go_enter Tryz.func38, Tryz.ntmps38
    go_wp2
    rw [← HW.out]
    go_ret
    exact ⟨rfl, H0.out⟩
  | true =>
    go_enter Tryz.func38, Tryz.ntmps38
    go_wp2_with fail
    rw [← HW.out]
    refine E0.out.mono ?_
    rintro e w1 ⟨rfl, hb⟩
    have H1 : Hid (Below w.heap.size w w1) := H0.out.trans (hb.mono H0.out.size)
    clear hb E0 H0 HW
    go_wp2
    go_ret
    exact ⟨rfl, H1.out⟩
end Go.Proofs.YtcenlgfopmahcaaGreatDoor

/-
  The document's word on right entries.
-/
namespace Go.Proofs.YtcenlgfopmahcaaGreatDoor
open Go.RowKit Go.Lib
set_option linter.unusedVariables false

set_option maxHeartbeats 400000 in
theorem specEntries_any (v : Value) (l : List ByteArray) (w : World) (B : Nat) (h : Texts w B v l) (hl : l.length ≤ 1048576) :
    Calls Tryz.prog 37 #[v] w fun e w' => e = .returned (.bool (rightB l)) ∧ w' = w := by
  obtain ⟨a, cap, rfl, hcap, hc⟩ := h.at
  have HC : Hid (∀ j (hj : j < l.length), ∃ b off, a = some ⟨b, off, none⟩ ∧ b < B ∧ w.cell? ⟨b, off + j, none⟩ = some (.string l[j])) := hc
  clear hc h hcap
  obtain ⟨n, hn⟩ : ∃ n, n = l.length := ⟨_, rfl⟩
  have HN : Hid (n = l.length) := hn
  rw [← hn] at hl ⊢
  clear hn
  obtain ⟨W, hW⟩ : ∃ W, W = rightB l := ⟨_, rfl⟩
  rw [← hW]
  have HW : Hid (W = rightB l) := hW
  clear hW
  go_enter Tryz.func37, Tryz.ntmps37
  go_wp2
  go_loop [3] (fun i => ∃ k : Nat, k ≤ n ∧ i = .int .i64 k ∧ ∀ j (h : j < l.length), j < k → (l[j].size : Int) ≤ 100) (fun i => n - (RowKit.intOf i).toNat)
  case atStart => exact ⟨0, Nat.zero_le _, rfl, fun j _ h => by omega⟩
  case round =>
    obtain ⟨k, hk, rfl, hall⟩ := hrel
    have HA : Hid (∀ j (h : j < l.length), j < k → (l[j].size : Int) ≤ 100) := hall
    clear hall
    by_cases hkn : k < n
    · have hkl : k < l.length := by rw [← HN.out]; exact hkn
      obtain ⟨b, off, rfl, hB, hc⟩ := HC.out k hkl
      have HA2 : Hid ((l[k].size : Int) ≤ 100 → ∀ j (h : j < l.length), j < k + 1 → (l[j].size : Int) ≤ 100) := fun hr j h hj => by
        by_cases e : j = k
        · subst e; exact hr
        · exact HA.out j h (by omega)
      have HB : Hid (¬ (l[k].size : Int) ≤ 100 → W = false) := fun h => by
        rw [HW.out]
        unfold rightB
        rw [smallB_no hkl h, Bool.and_false]
      have hknI : (k : Int) < (n : Int) := by omega
      clear HC HA HN HW
      generalize l[k] = t at *
      by_cases h32 : (t.size : Int) ≤ 100
      · go_wp2
        go_round
        case rel => exact ⟨k + 1, by omega, by go_num, HA2.out h32⟩
        case measure => simp [RowKit.intOf]; omega
      · have HF : Hid (W = false) := HB.out h32
        clear HA2 HB
        go_wp2
        go_ret
        exact ⟨ret_bool HF.out.symm, rfl⟩
    · have HF : Hid (W = decide ((n : Int) ≤ 64)) := by
        show _ = _
        have h1 := smallB_yes fun j hj => HA.out j hj (by have := HN.out; omega)
        rw [HW.out, rightB, h1, Bool.and_true, ← HN.out]
      clear HC HA HN HW
      by_cases h64 : (n : Int) ≤ 64
      · go_wp2
        go_ret
        exact ⟨ret_bool (by rw [HF.out, decide_eq_true h64]), rfl⟩
      · go_wp2
        go_ret
        exact ⟨ret_bool (by rw [HF.out, decide_eq_false (by omega)]), rfl⟩
end Go.Proofs.YtcenlgfopmahcaaGreatDoor

/-
  The document's greatest power of two below a number.
-/
namespace Go.Proofs.YtcenlgfopmahcaaGreatDoor
open Go.RowKit Go.Lib
set_option linter.unusedVariables false

theorem ret_i64 {a b : Int} (h : a = b) : Ending.returned (.int .i64 a) = .returned (.int .i64 b) := by rw [h]
theorem halfG_go {n k : Nat} (hk : 0 < k) (h : 2 * k < n) : halfG n k = halfG n (2 * k) := by rw [halfG_eq, dif_pos ⟨hk, h⟩]
theorem halfG_end {n k : Nat} (h : ¬ 2 * k < n) : halfG n k = k := by rw [halfG_eq, dif_neg (by omega)]

set_option maxHeartbeats 400000 in
theorem half_any (n : Nat) (w : World) (hn : n ≤ 1048576) :
    Calls Tryz.prog 55 #[.int .i64 n] w fun e w' => e = .returned (.int .i64 (half n)) ∧ w' = w := by
  obtain ⟨H, hH⟩ : ∃ H, H = half n := ⟨_, rfl⟩
  rw [← hH]
  have HH : Hid (halfG n 1 = H) := hH.symm
  clear hH
  go_enter Tryz.func55, Tryz.ntmps55
  go_wp2
  go_loop [3] (fun x => ∃ k : Nat, 0 < k ∧ k ≤ 1048576 ∧ x = .int .i64 k ∧ halfG n k = H) (fun x => n - (RowKit.intOf x).toNat)
  case atStart => exact ⟨1, by omega, by omega, rfl, HH.out⟩
  case round =>
    obtain ⟨k, hk0, hk1, rfl, hg⟩ := hrel
    by_cases hlt : 2 * k < n
    · rw [halfG_go hk0 hlt] at hg
      have HG : Hid (halfG n (2 * k) = H) := hg
      have hltI : 2 * (k : Int) < (n : Int) := by omega
      clear hg
      go_wp2
      go_round
      case rel => exact ⟨2 * k, by omega, by omega, by go_num, HG.out⟩
      case measure => simp [RowKit.intOf]; omega
    · rw [halfG_end hlt] at hg
      have HG : Hid (k = H) := hg
      have hltI : ¬ 2 * (k : Int) < (n : Int) := by omega
      clear hg
      go_wp2
      go_ret
      exact ⟨ret_i64 (by rw [HG.out]), rfl⟩
end Go.Proofs.YtcenlgfopmahcaaGreatDoor

/-
  The document's tree of right entries; whether entries are right.
-/
namespace Go.Proofs.YtcenlgfopmahcaaGreatDoor
open Go.RowKit Go.Lib
set_option linter.unusedVariables false

set_option maxHeartbeats 4000000 in
set_option maxRecDepth 10000 in
theorem specTree_any (n : Nat) : ∀ (l : List ByteArray), l.length = n → n ≤ 1048576 → (∀ j (hj : j < l.length), l[j].size ≤ 100) → ∀ (v : Value) (w : World), Texts w w.heap.size v l →
    Calls Tryz.prog 39 #[v] w fun e w' => e = .returned (.string (treeB l)) ∧ Below w.heap.size w w' := by
  induction n using Nat.strongRecOn with
  | ind n ih =>
    intro l hn hl hz v w h
    by_cases h0 : n = 0
    · subst h0
      have E : Hid (Calls Tryz.prog 53 #[.string ByteArray.empty] w fun e w' => e = .returned (.string noneB) ∧ Below w.heap.size w w') := all_any ByteArray.empty w (by show 0 ≤ 50000; omega)
      rw [treeB_none hn]
      obtain ⟨a, cap, rfl, _, _⟩ := h
      rw [hn]
      generalize noneB = D at *
      unfold ByteArray.empty ByteArray.emptyWithCapacity at E
      clear ih hn hl hz
      go_enter Tryz.func39, Tryz.ntmps39
      go_wp2_with fail
      refine E.out.mono ?_
      rintro e w1 ⟨rfl, hb⟩
      have HB : Hid (Below w.heap.size w w1) := hb
      clear hb
      go_wp2
      go_ret
      exact ⟨rfl, HB.out⟩
    by_cases h1 : n = 1
    · subst h1
      obtain ⟨a, cap, rfl, hcap, hc⟩ := h.at
      obtain ⟨b, off, rfl, hB, hc0⟩ := hc 0 (by omega)
      rw [Nat.add_zero] at hc0
      have E : Hid (Calls Tryz.prog 54 #[.string l[0]] w fun e w' => e = .returned (.string (leafB l[0])) ∧ Below w.heap.size w w') := leaf_any l[0] w (by have := hz 0 (by omega); omega)
      rw [treeB_one hn (by omega)]
      clear ih hl hz hc h hcap
      generalize leafB l[0] = D at *
      generalize l[0] = t at *
      rw [hn]
      go_enter Tryz.func39, Tryz.ntmps39
      go_wp2_with fail
      refine E.out.mono ?_
      rintro e w1 ⟨rfl, hb⟩
      have HB : Hid (Below w.heap.size w w1) := hb
      clear hb
      go_wp2
      go_ret
      exact ⟨rfl, HB.out⟩
    have hl2 : 2 ≤ l.length := by omega
    obtain ⟨e, he, hk1, hk2⟩ := half_spec hl2
    have hp := Nat.two_pow_pos e
    rw [treeB_more hl2, hn]
    rw [hn] at hk1 hk2 he
    have EH : Hid (Calls Tryz.prog 55 #[.int .i64 n] w fun e w' => e = .returned (.int .i64 (half n)) ∧ w' = w) := half_any n w (by omega)
    obtain ⟨k, hk⟩ : ∃ k, k = half n := ⟨_, rfl⟩
    rw [← hk] at hk1 hk2 he EH ⊢
    obtain ⟨v1, hs1, ht1⟩ := slice_h h k (by omega) (k : Int) rfl
    obtain ⟨v2, hs2, ht2⟩ := slice_l h k (by omega) (k : Int) rfl
    have E1 : Hid (∀ w', Below w.heap.size w w' → Calls Tryz.prog 39 #[v1] w' fun e w'' => e = .returned (.string (treeB (l.take k))) ∧ Below w.heap.size w w'') := by
      intro w' hb
      have hlen : (l.take k).length = k := by rw [List.length_take]; omega
      refine (ih k (by omega) (l.take k) hlen (by omega) (fun j hj => ?_) v1 w' ((ht1.below hb).up hb.size)).mono ?_
      · rw [List.getElem_take]; exact hz _ _
      · rintro e w'' ⟨rfl, hb2⟩
        exact ⟨rfl, hb.trans (hb2.mono hb.size)⟩
    have E2 : Hid (∀ w', Below w.heap.size w w' → Calls Tryz.prog 39 #[v2] w' fun e w'' => e = .returned (.string (treeB (l.drop k))) ∧ Below w.heap.size w w'') := by
      intro w' hb
      have hlen : (l.drop k).length = n - k := by rw [List.length_drop]; omega
      refine (ih (n - k) (by omega) (l.drop k) hlen (by omega) (fun j hj => ?_) v2 w' ((ht2.below hb).up hb.size)).mono ?_
      · rw [List.getElem_drop]; exact hz _ _
      · rintro e w'' ⟨rfl, hb2⟩
        exact ⟨rfl, hb.trans (hb2.mono hb.size)⟩
    have E3 : Hid (∀ w', Below w.heap.size w w' → Calls Tryz.prog 56 #[.string (treeB (l.take k)), .string (treeB (l.drop k))] w' fun e w'' => e = .returned (.string (nodeB (treeB (l.take k)) (treeB (l.drop k)))) ∧ Below w.heap.size w w'') := by
      intro w' hb
      refine (node_any _ _ w' (by rw [treeB_size]; omega) (by rw [treeB_size]; omega)).mono ?_
      rintro e w'' ⟨rfl, hb2⟩
      exact ⟨rfl, hb.trans (hb2.mono hb.size)⟩
    generalize nodeB (treeB (l.take k)) (treeB (l.drop k)) = T at *
    generalize treeB (l.take k) = t1 at *
    generalize treeB (l.drop k) = t2 at *
    obtain ⟨a, cap, rfl, hcap, hc⟩ := h.at
    have hn0 : ((n : Int) == 0) = false := beq_eq_false_iff_ne.2 (by omega)
    have hn1 : ((n : Int) == 1) = false := beq_eq_false_iff_ne.2 (by omega)
    have hn0' : ¬ (n : Int) = 0 := by omega
    have hn1' : ¬ (n : Int) = 1 := by omega
    rw [hn] at hs1 hs2 ⊢
    clear ih hz hc h ht1 ht2 hk he hp h0 h1 hl2 hcap
    go_enter Tryz.func39, Tryz.ntmps39
    go_wp2_with fail
    refine EH.out.mono ?_
    rintro e w1 ⟨rfl, rfl⟩
    clear EH
    have HA : Hid (Below w1.heap.size w1 w1) := Below.refl _ _
    go_wp2_with fail
    go_region_with (first
      | (go_at_call 39; ((with_reducible refine (E1.out _ ?_).mono ?_); (first | exact HA.out | exact below_drew' HA.out | exact below_drew' (below_drew' HA.out)); rintro e wa ⟨rfl, hba⟩; have HA : Hid (Below w1.heap.size w1 wa) := hba; clear hba))
      | (go_at_call 39; (with_reducible refine (E2.out _ ?_).mono ?_); (first | exact HA.out | exact below_drew' HA.out | exact below_drew' (below_drew' HA.out)); rintro e wa ⟨rfl, hba⟩; have HA : Hid (Below w1.heap.size w1 wa) := hba; clear hba)
      | (go_at_call 56; (with_reducible refine (E3.out _ ?_).mono ?_); (first | exact HA.out | exact below_drew' HA.out | exact below_drew' (below_drew' HA.out)); rintro e wa ⟨rfl, hba⟩; have HA : Hid (Below w1.heap.size w1 wa) := hba; clear hba))
    all_goals
      go_wp2
      go_ret
      exact ⟨rfl, HA.out⟩
theorem part_small {l : List ByteArray} {n : Nat} (hz : ∀ j (hj : j < l.length), l[j].size ≤ n) (k : Nat) : (∀ j (hj : j < (l.take k).length), (l.take k)[j].size ≤ n) ∧ (∀ j (hj : j < (l.drop k).length), (l.drop k)[j].size ≤ n) :=
  ⟨fun j hj => by rw [List.getElem_take]; exact hz _ _, fun j hj => by rw [List.getElem_drop]; exact hz _ _⟩
end Go.Proofs.YtcenlgfopmahcaaGreatDoor

/-
  Conflict, the document's.
-/
namespace Go.Proofs.YtcenlgfopmahcaaGreatDoor
open Go.RowKit Go.Lib
set_option linter.unusedVariables false
set_option linter.unusedSimpArgs false

set_option maxHeartbeats 4000000 in
set_option maxRecDepth 10000 in
theorem specConf_any (log1 root1 : ByteArray) (size1 time1 k1 : Int) (ve1 vp1 : Value) (el1 pl1 : List ByteArray) (log2 root2 : ByteArray) (size2 time2 k2 : Int) (ve2 vp2 : Value) (el2 pl2 : List ByteArray) (w : World) (h1 : Texts w w.heap.size ve1 el1) (h1' : Texts w w.heap.size vp1 pl1) (hl1 : el1.length ≤ 1048576) (hl1' : pl1.length ≤ 1048576) (hlog1 : log1.size ≤ 1048576) (hroot1 : root1.size ≤ 1048576) (h2 : Texts w w.heap.size ve2 el2) (h2' : Texts w w.heap.size vp2 pl2) (hl2 : el2.length ≤ 1048576) (hl2' : pl2.length ≤ 1048576) (hlog2 : log2.size ≤ 1048576) (hroot2 : root2.size ≤ 1048576) :
    Calls Tryz.prog 57 #[.agg #[.string log1, .int .i64 size1, .string root1, .int .i64 time1, .int .i64 k1, ve1, vp1], .agg #[.string log2, .int .i64 size2, .string root2, .int .i64 time2, .int .i64 k2, ve2, vp2]] w fun e w' => e = .returned (.bool (confB (headRB log1 size1 root1 time1 k1 el1 pl1) (headRB log2 size2 root2 time2 k2 el2 pl2) log1 log2 size1 size2 root1 root2)) ∧ Below w.heap.size w w' := by
  obtain ⟨a1, c1, rfl, _⟩ := id h1
  obtain ⟨b1, d1, rfl, _⟩ := id h1'
  obtain ⟨a2, c2, rfl, _⟩ := id h2
  obtain ⟨b2, d2, rfl, _⟩ := id h2'
  obtain ⟨W, hW⟩ : ∃ W, W = (w.alloc (.cells #[.string log1, .int .i64 size1, .string root1, .int .i64 time1, .int .i64 k1, .slice a1 el1.length c1, .slice b1 pl1.length d1] 37)).alloc (.cells #[.string log2, .int .i64 size2, .string root2, .int .i64 time2, .int .i64 k2, .slice a2 el2.length c2, .slice b2 pl2.length d2] 37) := ⟨_, rfl⟩
  have hbW : Below w.heap.size w W := by rw [hW]; exact ((Below.refl _ _).alloc (Nat.le_refl _) _).alloc (by simp) _
  have H0 : Hid (Below w.heap.size w W ∧ W.heap[w.heap.size]? = some (.cells #[.string log1, .int .i64 size1, .string root1, .int .i64 time1, .int .i64 k1, .slice a1 el1.length c1, .slice b1 pl1.length d1] 37 (0, 0)) ∧ W.heap[w.heap.size + 1]? = some (.cells #[.string log2, .int .i64 size2, .string root2, .int .i64 time2, .int .i64 k2, .slice a2 el2.length c2, .slice b2 pl2.length d2] 37 (0, 0)) ∧ w.heap.size + 1 < W.heap.size) := by
    refine ⟨hbW, ?_, ?_, ?_⟩
    · rw [hW]; exact heap_alloc2_old w _ _
    · rw [hW]; exact heap_alloc2_new w _ _
    · rw [hW]; simp
  have HW : Hid (W = (w.alloc (.cells #[.string log1, .int .i64 size1, .string root1, .int .i64 time1, .int .i64 k1, .slice a1 el1.length c1, .slice b1 pl1.length d1] 37)).alloc (.cells #[.string log2, .int .i64 size2, .string root2, .int .i64 time2, .int .i64 k2, .slice a2 el2.length c2, .slice b2 pl2.length d2] 37)) := hW
  have HC : Hid (∀ W', Below W.heap.size W W' → (W'.cell? ⟨w.heap.size, 0, none⟩ = some (.string log1) ∧ W'.cell? ⟨w.heap.size, 1, none⟩ = some (.int .i64 size1) ∧ W'.cell? ⟨w.heap.size, 2, none⟩ = some (.string root1) ∧ W'.cell? ⟨w.heap.size, 3, none⟩ = some (.int .i64 time1) ∧ W'.cell? ⟨w.heap.size, 4, none⟩ = some (.int .i64 k1) ∧ W'.cell? ⟨w.heap.size, 5, none⟩ = some (.slice a1 el1.length c1) ∧ W'.cell? ⟨w.heap.size, 6, none⟩ = some (.slice b1 pl1.length d1)) ∧ (W'.cell? ⟨w.heap.size + 1, 0, none⟩ = some (.string log2) ∧ W'.cell? ⟨w.heap.size + 1, 1, none⟩ = some (.int .i64 size2) ∧ W'.cell? ⟨w.heap.size + 1, 2, none⟩ = some (.string root2) ∧ W'.cell? ⟨w.heap.size + 1, 3, none⟩ = some (.int .i64 time2) ∧ W'.cell? ⟨w.heap.size + 1, 4, none⟩ = some (.int .i64 k2) ∧ W'.cell? ⟨w.heap.size + 1, 5, none⟩ = some (.slice a2 el2.length c2) ∧ W'.cell? ⟨w.heap.size + 1, 6, none⟩ = some (.slice b2 pl2.length d2)) ∧ (W'.drew.cell? ⟨w.heap.size, 0, none⟩ = some (.string log1) ∧ W'.drew.cell? ⟨w.heap.size, 1, none⟩ = some (.int .i64 size1) ∧ W'.drew.cell? ⟨w.heap.size, 2, none⟩ = some (.string root1) ∧ W'.drew.cell? ⟨w.heap.size, 3, none⟩ = some (.int .i64 time1) ∧ W'.drew.cell? ⟨w.heap.size, 4, none⟩ = some (.int .i64 k1) ∧ W'.drew.cell? ⟨w.heap.size, 5, none⟩ = some (.slice a1 el1.length c1) ∧ W'.drew.cell? ⟨w.heap.size, 6, none⟩ = some (.slice b1 pl1.length d1)) ∧ (W'.drew.cell? ⟨w.heap.size + 1, 0, none⟩ = some (.string log2) ∧ W'.drew.cell? ⟨w.heap.size + 1, 1, none⟩ = some (.int .i64 size2) ∧ W'.drew.cell? ⟨w.heap.size + 1, 2, none⟩ = some (.string root2) ∧ W'.drew.cell? ⟨w.heap.size + 1, 3, none⟩ = some (.int .i64 time2) ∧ W'.drew.cell? ⟨w.heap.size + 1, 4, none⟩ = some (.int .i64 k2) ∧ W'.drew.cell? ⟨w.heap.size + 1, 5, none⟩ = some (.slice a2 el2.length c2) ∧ W'.drew.cell? ⟨w.heap.size + 1, 6, none⟩ = some (.slice b2 pl2.length d2))) := fun W' hb => by
    obtain ⟨c, _⟩ := seven_cells hb (Nat.lt_of_succ_lt H0.out.2.2.2) H0.out.2.1
    obtain ⟨d, _⟩ := seven_cells hb H0.out.2.2.2 H0.out.2.2.1
    exact ⟨c, d, c, d⟩
  have G1 : Hid (∀ W', Below W.heap.size W W' → Calls Tryz.prog 69 #[.agg #[.string log1, .int .i64 size1, .string root1, .int .i64 time1, .int .i64 k1, .slice a1 el1.length c1, .slice b1 pl1.length d1]] W' fun e w'' => e = .returned (.bool (headRB log1 size1 root1 time1 k1 el1 pl1)) ∧ Below W.heap.size W w'') := fun W' hb => (specHeadRight_any log1 root1 size1 time1 k1 _ _ el1 pl1 W' ((h1.below (hbW.trans (hb.mono hbW.size))).up (hbW.trans (hb.mono hbW.size)).size) ((h1'.below (hbW.trans (hb.mono hbW.size))).up (hbW.trans (hb.mono hbW.size)).size) hl1 hl1' hlog1 hroot1).mono fun e w'' h => ⟨h.1, hb.trans (h.2.mono hb.size)⟩
  have G2 : Hid (∀ W', Below W.heap.size W W' → Calls Tryz.prog 69 #[.agg #[.string log2, .int .i64 size2, .string root2, .int .i64 time2, .int .i64 k2, .slice a2 el2.length c2, .slice b2 pl2.length d2]] W' fun e w'' => e = .returned (.bool (headRB log2 size2 root2 time2 k2 el2 pl2)) ∧ Below W.heap.size W w'') := fun W' hb => (specHeadRight_any log2 root2 size2 time2 k2 _ _ el2 pl2 W' ((h2.below (hbW.trans (hb.mono hbW.size))).up (hbW.trans (hb.mono hbW.size)).size) ((h2'.below (hbW.trans (hb.mono hbW.size))).up (hbW.trans (hb.mono hbW.size)).size) hl2 hl2' hlog2 hroot2).mono fun e w'' h => ⟨h.1, hb.trans (h.2.mono hb.size)⟩
  have HB0 : Hid (Below W.heap.size W W) := Below.refl _ _
  obtain ⟨⟨c0, c1', c2', c3, c4, c5, c6⟩, ⟨d0, d1', d2', d3, d4, d5, d6⟩, _⟩ := HC.out W (Below.refl _ _)
  generalize headRB log1 size1 root1 time1 k1 el1 pl1 = ra at *
  generalize headRB log2 size2 root2 time2 k2 el2 pl2 = rb at *
  clear h1 h1' h2 h2' hW hbW hlog1 hroot1 hlog2 hroot2 hl1 hl1' hl2 hl2'
  unfold confB
  have step : ∀ (x : Bool), x = true ∨ x = false := fun x => by cases x <;> simp
  cases ra with
  | false =>
    go_enter Tryz.func57, Tryz.ntmps57
    go_wp2_with fail
    rw [← HW.out]
    refine (G1.out _ HB0.out).mono ?_
    rintro e w1 ⟨rfl, hb1⟩
    have B1 : Hid (Below W.heap.size W w1) := hb1
    clear hb1
    go_wp2
    go_ret
    exact ⟨rfl, H0.out.1.trans (B1.out.mono H0.out.1.size)⟩
  | true =>
    cases rb with
    | false =>
      go_enter Tryz.func57, Tryz.ntmps57
      go_wp2_with fail
      rw [← HW.out]
      refine (G1.out _ HB0.out).mono ?_
      rintro e w1 ⟨rfl, hb1⟩
      have B1 : Hid (Below W.heap.size W w1) := hb1
      clear c0 c1' c2' c3 c4 c5 c6 d0 d1' d2' d3 d4 d5 d6
      obtain ⟨⟨c0, c1', c2', c3, c4, c5, c6⟩, ⟨d0, d1', d2', d3, d4, d5, d6⟩, _⟩ := HC.out _ hb1
      clear hb1
      go_wp2_with fail
      refine (G2.out _ B1.out).mono ?_
      rintro e w2 ⟨rfl, hb2⟩
      have B2 : Hid (Below W.heap.size W w2) := hb2
      clear hb2
      go_wp2
      go_ret
      exact ⟨rfl, H0.out.1.trans (B2.out.mono H0.out.1.size)⟩
    | true =>
      rcases step (log1.toList == log2.toList) with q1 | q1 <;> rcases step (size1 == size2) with q2 | q2 <;> rcases step (root1.toList == root2.toList) with q3 | q3 <;> rw [q1, q2, q3]
      all_goals
        go_enter Tryz.func57, Tryz.ntmps57
        go_wp2_with fail
        rw [← HW.out]
        refine (G1.out _ HB0.out).mono ?_
        rintro e w1 ⟨rfl, hb1⟩
        have B1 : Hid (Below W.heap.size W w1) := hb1
        clear c0 c1' c2' c3 c4 c5 c6 d0 d1' d2' d3 d4 d5 d6
        obtain ⟨⟨c0, c1', c2', c3, c4, c5, c6⟩, ⟨d0, d1', d2', d3, d4, d5, d6⟩, _⟩ := HC.out _ hb1
        clear hb1
        go_wp2_with fail
        refine (G2.out _ B1.out).mono ?_
        rintro e w2 ⟨rfl, hb2⟩
        have B2 : Hid (Below W.heap.size W w2) := hb2
        clear c0 c1' c2' c3 c4 c5 c6 d0 d1' d2' d3 d4 d5 d6
        obtain ⟨⟨c0, c1', c2', c3, c4, c5, c6⟩, ⟨d0, d1', d2', d3, d4, d5, d6⟩, _⟩ := HC.out _ hb2
        clear hb2
        go_wp2
        go_ret
        exact ⟨rfl, H0.out.1.trans (B2.out.mono H0.out.1.size)⟩
end Go.Proofs.YtcenlgfopmahcaaGreatDoor
