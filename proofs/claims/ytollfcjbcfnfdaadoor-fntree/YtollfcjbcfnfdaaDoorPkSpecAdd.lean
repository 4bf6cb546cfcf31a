/-
  The document's RangeAdd.
-/
import Derived.Test.YtollfcjbcfnfdaaDoorPkImplNode
import Derived.Test.YtollfcjbcfnfdaaDoorPkStepLaws
import Derived.Test.YtollfcjbcfnfdaaDoorPkOutAt
import Derived.Test.YtollfcjbcfnfdaaDoorPkCells
import Derived.Test.YtollfcjbcfnfdaaDoorPkSpecNode
import Derived.Test.YtollfcjbcfnfdaaDoorPkTextRows
import Derived.Deep.DeepCutAuto
namespace Go.Proofs.YtollfcjbcfnfdaaDoor
open Go.RowKit Go.Lib
set_option linter.unusedVariables false
set_option linter.unusedSimpArgs false

set_option maxHeartbeats 2000000 in
set_option maxRecDepth 10000 in
theorem specAddY_any (n : Nat) (v : Value) (l : List ByteArray) (t : ByteArray) (w : World) (h : Texts w w.heap.size v l) (hr : rangeB n l = true) (hn : n < 1000000) (ht : t.size ≤ 100) :
    Calls Tryd.prog 17 #[.agg #[.int .i64 n, v], .string t] w fun e w' => RangeAns w ((n : Int) + 1) (addB n l (leafB t)) e w' := by
  obtain ⟨hr1, hr2, hwide⟩ := rangeB_yes hr
  rw [Int.toNat_natCast] at hr2
  have hol := ones_le 20 n (by show n < 1048576; omega)
  obtain ⟨W, hW⟩ : ∃ W, W = (w.alloc (.cells #[.int .i64 n, v] 30)).alloc (.cells #[.int .i64 0, .slice none 0 0] 30) := ⟨_, rfl⟩
  have HW : Hid (W.heap[w.heap.size]? = some (.cells #[.int .i64 n, v] 30 (0, 0)) ∧ W.heap[w.heap.size + 1]? = some (.cells #[.int .i64 0, .slice none 0 0] 30 (0, 0)) ∧ Below w.heap.size w W ∧ w.heap.size + 2 = W.heap.size) := by
    subst hW
    have s1 : (w.alloc (.cells #[.int .i64 n, v] 30)).heap.size = w.heap.size + 1 := by simp
    have h2 := heap_alloc_new (w.alloc (.cells #[.int .i64 n, v] 30)) (.cells #[.int .i64 0, .slice none 0 0] 30)
    rw [s1] at h2
    exact ⟨(heap_alloc_old _ _ (by rw [s1]; omega)).trans (heap_alloc_new w _), h2, ((Below.refl _ _).alloc (Nat.le_refl _) _).alloc (by rw [s1]; omega) _, by simp⟩
  have hsm : ∀ j (hj : j < l.length), l[j].size ≤ 1000 := fun j hj => by have := wideB_at hwide hj; omega
  have HWE : Hid (W = (w.alloc (.cells #[.int .i64 n, v] 30)).alloc (.cells #[.int .i64 0, .slice none 0 0] 30)) := hW
  have HT : Hid (Texts w w.heap.size v l) := h
  have HT1 : Hid (∀ w', Below W.heap.size W w' → Texts w' w'.heap.size v l) := fun w' hb => ((h.below HW.out.2.2.1).below (hb.mono HW.out.2.2.1.size)).up (Nat.le_trans HW.out.2.2.1.size hb.size)
  have ER : Hid (∀ w', Below W.heap.size W w' → Calls Tryd.prog 57 #[.agg #[.int .i64 n, v]] w' fun e w'' => e = .returned (.bool true) ∧ Below w'.heap.size w' w'') := fun w' hb => by
    rw [← hr]
    exact specRange_any n v l w' (HT1.out _ hb) (by omega)
  have EL : Hid (∀ w', Calls Tryd.prog 58 #[.string t] w' fun e w'' => e = .returned (.string (leafB t)) ∧ Below w'.heap.size w' w'') := fun w' => leaf_any t w' (by omega)
  have hll : l.length ≤ 20 := by omega
  have hlm : l.length ≤ 1048577 := by omega
  have h00 : ([] : List ByteArray).length ≤ 1048576 := by simp
  obtain ⟨a, cap, rfl, hx, hy⟩ := h
  have htz : ¬ 20000 < (t.size : Int) := by omega
  have htz2 : ¬ 100 < (t.size : Int) := by omega
  have hnI : ¬ 1000000 ≤ (n : Int) := by omega
  have HA : Hid (Below W.heap.size W W) := Below.refl _ _
  obtain ⟨⟨c0, c1⟩, _, _⟩ := two_cells' HA.out (show w.heap.size < W.heap.size by rw [← HW.out.2.2.2]; omega) HW.out.1
  have hdr : ∀ p, W.drew.cell? p = W.cell? p := fun _ => rfl
  have HH : Hid ((leafB t).size ≤ 1000) := by show _ ≤ _; rw [leafB_size]; omega
  have HSM : Hid (∀ x ∈ l, x.size ≤ 1000) := fun x hx => by
    obtain ⟨j, hj, rfl⟩ := List.mem_iff_getElem.1 hx
    exact hsm j hj
  have HL1 : Hid (l.length = onesN n) := hr2
  generalize leafB t = H at *
  obtain ⟨AB, hAB⟩ : ∃ AB, AB = addB n l H := ⟨_, rfl⟩
  have HAB : Hid (AB = addB n l H) := hAB
  rw [← hAB]
  have hnB : decide (1000000 ≤ (n : Int)) = false := decide_eq_false hnI
  have htB : decide (100 < (t.size : Int)) = false := decide_eq_false htz2
  have HN : Hid (n < 1000000) := hn
  have hwn : wrap64 ((n : Int) + 1) = (n : Int) + 1 := by unfold wrap64; omega
  clear hx hy hW hr hr1 hr2 hwide hol ht hAB hsm hn hnI htz2
  go_enter Tryd.func17, Tryd.ntmps17
  go_wp2_with fail
  rw [← HWE.out]
  clear HWE
  have hlt : w.heap.size < W.heap.size := by rw [← HW.out.2.2.2]; omega
  have hne : ¬ w.heap.size = W.heap.size := by omega
  have hne1 : ¬ w.heap.size = W.heap.size + 1 := by omega
  have HM1 : Hid (OwnT ((W.drew.alloc (.cells #[.int .i64 0, .slice none 0 0] 30)).alloc (.cells #[] 9)) W.heap.size (.slice (some ⟨W.heap.size + 1, 0, none⟩) 0 0) []) := by
    have := OwnT.made (W.drew.alloc (.cells #[.int .i64 0, .slice none 0 0] 30)) W.heap.size (by simp)
    rw [show (W.drew.alloc (.cells #[.int .i64 0, .slice none 0 0] 30)).heap.size = W.heap.size + 1 by simp] at this
    exact this
  have HM2 : Hid (((W.drew.alloc (.cells #[] 9)).alloc (.cells #[.int .i64 0, .slice none 0 0] 30)).heap[W.heap.size + 1]? = some (.cells #[.int .i64 0, .slice none 0 0] 30 (0, 0))) := by
    have := heap_alloc_new (W.drew.alloc (.cells #[] 9)) (.cells #[.int .i64 0, .slice none 0 0] 30)
    rw [show (W.drew.alloc (.cells #[] 9)).heap.size = W.heap.size + 1 by simp] at this
    exact this
  go_cut [5] (fun o wx => ∃ p ax capx, o = .pointer (some ⟨p, 0, none⟩) ∧ OutAt W n p (.slice ax l.length capx) l wx)
  case first J K hJ hK =>
    go_region_law (first
      | (refine step_app_texts (w := W.drew.alloc (.cells #[] 9)) rfl (.tmp 15) (.tmp 17) rfl W.heap.size (.slice (some ⟨W.heap.size, 0, none⟩) 0 0) (.slice a l.length cap) [] l (by simp [Act.eval]) (OwnT.made W.drew _ (Nat.le_refl _)) (by simp [Act.eval]) (HT1.out _ ((below_drew' HA.out).alloc (Nat.le_refl _) _)) h00 hlm (by simp <;> omega) ?_; intro v4 w4 hown4 hb4 hbl4; rw [List.nil_append] at hown4; obtain ⟨ax, capx, rfl⟩ := hown4.len; have H4 : Hid (OwnT w4 W.heap.size (.slice ax l.length capx) l ∧ Below W.heap.size W w4) := ⟨hown4, ((below_drew' HA.out).alloc (Nat.le_refl _) _).trans hb4⟩; have hne4 : w.heap.size < w4.heap.size := Nat.lt_of_lt_of_le hlt H4.out.2.size; obtain ⟨⟨c0, c1⟩, _, _⟩ := two_cells' H4.out.2 hlt HW.out.1; have c50 : ∀ o, (w4.alloc o).cell? ⟨w.heap.size, 0, none⟩ = some (.int .i64 n) := fun o => (((Below.refl w4.heap.size w4).alloc (Nat.le_refl _) o).cell (p := ⟨w.heap.size, 0, none⟩) hne4).trans c0; clear hown4 hb4 hbl4)
      | (refine step_app_texts (w := (W.drew.alloc (.cells #[.int .i64 0, .slice none 0 0] 30)).alloc (.cells #[] 9)) rfl (.tmp 15) (.tmp 17) rfl W.heap.size (.slice (some ⟨W.heap.size + 1, 0, none⟩) 0 0) (.slice a l.length cap) [] l (by simp [Act.eval]) HM1.out (by simp [Act.eval]) (HT1.out _ (((below_drew' HA.out).alloc (Nat.le_refl _) _).alloc (by simp <;> omega) _)) h00 hlm (by simp <;> omega) ?_; intro v4 w4 hown4 hb4 hbl4; rw [List.nil_append] at hown4; obtain ⟨ax, capx, rfl⟩ := hown4.len; have H4 : Hid (OwnT w4 W.heap.size (.slice ax l.length capx) l ∧ Below W.heap.size W w4) := ⟨hown4, (((below_drew' HA.out).alloc (Nat.le_refl _) _).alloc (by simp <;> omega) _).trans hb4⟩; have hne4 : w.heap.size < w4.heap.size := Nat.lt_of_lt_of_le hlt H4.out.2.size; obtain ⟨⟨c0, c1⟩, _, _⟩ := two_cells' H4.out.2 hlt HW.out.1; have c50 : ∀ o, (w4.alloc o).cell? ⟨w.heap.size, 0, none⟩ = some (.int .i64 n) := fun o => (((Below.refl w4.heap.size w4).alloc (Nat.le_refl _) o).cell (p := ⟨w.heap.size, 0, none⟩) hne4).trans c0; have hp5 : w4.heap[W.heap.size]? = some (.cells #[.int .i64 0, .slice none 0 0] 30 (0, 0)) := (hbl4 _ (by simp <;> omega) (by simp [Value.ownBlock])).trans ((heap_alloc_old (W.drew.alloc (.cells #[.int .i64 0, .slice none 0 0] 30)) _ (by simp <;> omega)).trans (heap_alloc_new W.drew _)); obtain ⟨⟨d0, d1⟩, f0, f1⟩ := two_cells' (Below.refl w4.heap.size w4) (Array.getElem?_eq_some_iff.1 hp5).1 hp5; clear hown4 hb4 hbl4)
      | (refine step_app_texts (w := (W.drew.alloc (.cells #[] 9)).alloc (.cells #[.int .i64 0, .slice none 0 0] 30)) rfl (.tmp 15) (.tmp 17) rfl W.heap.size (.slice (some ⟨W.heap.size, 0, none⟩) 0 0) (.slice a l.length cap) [] l (by simp [Act.eval]) ((OwnT.made W.drew _ (Nat.le_refl _)).below ((Below.refl _ _).alloc (Nat.le_refl _) _) (Nat.le_refl _)) (by simp [Act.eval]) (HT1.out _ (((below_drew' HA.out).alloc (Nat.le_refl _) _).alloc (by simp <;> omega) _)) h00 hlm (by simp <;> omega) ?_; intro v4 w4 hown4 hb4 hbl4; rw [List.nil_append] at hown4; obtain ⟨ax, capx, rfl⟩ := hown4.len; have H4 : Hid (OwnT w4 W.heap.size (.slice ax l.length capx) l ∧ Below W.heap.size W w4) := ⟨hown4, (((below_drew' HA.out).alloc (Nat.le_refl _) _).alloc (by simp <;> omega) _).trans hb4⟩; have hne4 : w.heap.size < w4.heap.size := Nat.lt_of_lt_of_le hlt H4.out.2.size; obtain ⟨⟨c0, c1⟩, _, _⟩ := two_cells' H4.out.2 hlt HW.out.1; have c50 : ∀ o, (w4.alloc o).cell? ⟨w.heap.size, 0, none⟩ = some (.int .i64 n) := fun o => (((Below.refl w4.heap.size w4).alloc (Nat.le_refl _) o).cell (p := ⟨w.heap.size, 0, none⟩) hne4).trans c0; have hp5 : w4.heap[W.heap.size + 1]? = some (.cells #[.int .i64 0, .slice none 0 0] 30 (0, 0)) := (hbl4 _ (by simp <;> omega) (by simp [Value.ownBlock])).trans (HM2.out); obtain ⟨⟨d0, d1⟩, f0, f1⟩ := two_cells' (Below.refl w4.heap.size w4) (Array.getElem?_eq_some_iff.1 hp5).1 hp5; clear hown4 hb4 hbl4))
    all_goals
      refine hK _ _ (Met.intro (hJ _ _ ?_))
      (repeat apply Exists.intro)
      refine ⟨?rel, rfl⟩
      case rel => first
        | exact ⟨_, _, _, rfl, OutAt.made H4.out.1 H4.out.2⟩
        | exact ⟨_, _, _, rfl, OutAt.sets hp5 H4.out.1 H4.out.2 (Nat.le_refl _)⟩
        | exact ⟨_, _, _, rfl, OutAt.sets hp5 H4.out.1 H4.out.2 (Nat.le_succ _)⟩
  case rest =>
    obtain ⟨p, ax, capx, rfl, hout⟩ := hcut
    clear HM1 HM2 hdr c0 c1 HA hne hne1
    obtain ⟨⟨c0, c1⟩, _, _⟩ := two_cells' hout.2.2.1 hlt HW.out.1
    have H5 : Hid (OutAt W n p (.slice ax l.length capx) l wc) := hout
    clear hout
    go_wp2_with fail
    refine (ER.out _ H5.out.2.2.1).mono ?_
    rintro e w6 ⟨rfl, hb6⟩
    have H6 : Hid (OutAt W n p (.slice ax l.length capx) l w6) := H5.out.below hb6
    clear c0 c1 hb6 H5 ER
    obtain ⟨⟨c0, c1⟩, _, _⟩ := two_cells' H6.out.2.2.1 hlt HW.out.1
    go_wp2_with fail
    refine (EL.out _).mono ?_
    rintro e w7 ⟨rfl, hb7⟩
    have H7 : Hid (OutAt W n p (.slice ax l.length capx) l w7) := H6.out.below hb7
    clear c0 c1 hb7 H6 EL
    obtain ⟨⟨c0, c1⟩, _, _⟩ := two_cells' H7.out.2.2.1 hlt HW.out.1
    go_wp2
    go_loopw [6, 7] (fun hv nv wr => ∃ (m : Nat) (cur : List ByteArray) (h : ByteArray) (v : Value), hv = .string h ∧ nv = .int .i64 m ∧ m ≤ 1000000 ∧ OutAt W n p v cur wr ∧ addB m cur h = AB ∧ cur.length = onesN m ∧ cur.length ≤ 20 ∧ (∀ x ∈ cur, x.size ≤ 1000) ∧ h.size ≤ 1000) (fun _ x _ => (intOf x).toNat)
    case atStart => exact ⟨n, l, H, _, rfl, rfl, by have := HN.out; omega, H7.out, HAB.out.symm, HL1.out, hll, HSM.out, HH.out⟩
    case round =>
      obtain ⟨m, cur, h, v, rfl, rfl, hm, hout, hadd, hlen, hl20, hsml, hh⟩ := hrel
      by_cases hodd : m % 2 = 1
      · obtain ⟨c', x, rfl, hadd', hlen'⟩ := addB_odd h hodd hlen
        rw [hadd'] at hadd
        have hown := hout.2.1
        obtain ⟨v1, hs1, ho1⟩ := own_h hown c'.length (by simp) (c'.length : Int) rfl
        rw [List.take_left] at ho1
        obtain ⟨a1, cap1, rfl⟩ := ho1.len
        obtain ⟨a2, cap2, hv, hcap2, hcells⟩ := hown.texts.at
        rw [show (c' ++ [x]).length = c'.length + 1 by simp] at hv
        subst hv
        obtain ⟨b, off, rfl, hB, hcell⟩ := hcells c'.length (by simp)
        have hcl : wr.cell? ⟨b, off + c'.length, none⟩ = some (.string x) := by rw [hcell]; simp
        have EN : Hid (∀ w', Calls Tryd.prog 59 #[.string x, .string h] w' fun e w'' => e = .returned (.string (nodeB x h)) ∧ Below w'.heap.size w' w'') := fun w' => node_any x h w' (by have := hsml x (by simp); omega) (by omega)
        obtain ⟨⟨d0, d1⟩, f0, f1⟩ := two_cells' (Below.refl wr.heap.size wr) (Array.getElem?_eq_some_iff.1 hout.1).1 hout.1
        have HR : Hid (OutAt W n p (.slice (some ⟨b, off, none⟩) (c'.length + 1) cap2) (c' ++ [x]) wr ∧ addB (m / 2) c' (nodeB x h) = AB ∧ c'.length = onesN (m / 2) ∧ (∀ y ∈ c', y.size ≤ 1000) ∧ (nodeB x h).size ≤ 1000 ∧ OwnT wr W.heap.size (.slice a1 c'.length cap1) c') := ⟨hout, hadd, hlen', fun y hy => hsml y (List.mem_append_left _ hy), by rw [nodeB_size]; omega, ho1⟩
        have hl19 : c'.length ≤ 19 := by simp at hl20; omega
        clear hadd hadd' hlen hlen' hsml hh hown ho1 hcells hcell hcap2 hout hl20 hB
        generalize nodeB x h = nx at *
        have hmI : (m : Int) % 2 = 1 := by omega
        have hmB : ((m : Int) % 2 == 1) = true := beq_iff_eq.2 hmI
        go_wp2_with fail
        refine (EN.out _).mono ?_
        rintro e w8 ⟨rfl, hb8⟩
        have H8 : Hid (OutAt W n p (.slice (some ⟨b, off, none⟩) (c'.length + 1) cap2) (c' ++ [x]) w8 ∧ OwnT w8 W.heap.size (.slice a1 c'.length cap1) c') := ⟨HR.out.1.below hb8, HR.out.2.2.2.2.2.below hb8 (Nat.le_refl _)⟩
        clear d0 d1 f0 f1 hb8 EN hcl
        obtain ⟨⟨d0, d1⟩, f0, f1⟩ := two_cells' (Below.refl w8.heap.size w8) (Array.getElem?_eq_some_iff.1 H8.out.1.1).1 H8.out.1.1
        have H9 : Hid (OutAt W n p (.slice a1 c'.length cap1) c' (w8.setCell ⟨p, 1, none⟩ (.slice a1 c'.length cap1))) := H8.out.1.row H8.out.2
        go_wp2
        go_roundw
        case rel => exact ⟨m / 2, c', nx, _, rfl, by go_num, by omega, H9.out, HR.out.2.1, HR.out.2.2.1, by omega, HR.out.2.2.2.1, HR.out.2.2.2.2.1⟩
        case measure => simp [intOf]; omega
      · rw [addB_even cur h hodd] at hadd
        have hown := hout.2.1
        obtain ⟨a2, cap2, rfl⟩ := hown.len
        obtain ⟨⟨d0, d1⟩, f0, f1⟩ := two_cells' (Below.refl wr.heap.size wr) (Array.getElem?_eq_some_iff.1 hout.1).1 hout.1
        have hszr := hout.2.2.1.size
        have hl20' : cur.length ≤ 1048576 := by omega
        have HR : Hid (OutAt W n p (.slice a2 cur.length cap2) cur wr ∧ cur ++ [h] = AB) := ⟨hout, hadd⟩
        have hmI : ¬ (m : Int) % 2 = 1 := by omega
        have hmB : ((m : Int) % 2 == 1) = false := beq_eq_false_iff_ne.2 hmI
        have HLC : Hid ((cur ++ [h]).length = cur.length + 1) := by show _ = _; simp
        clear hadd hlen hsml hh hout
        go_wp2_with (at_builtin; go_must (refine wp_app_textG rfl (.tmp 60) (.tmp 62) rfl W.heap.size _ _ rfl hown h rfl hl20' hszr ?_); intro v9 w9 hown9 hb9 hbl9; obtain ⟨a9, cap9, hv9⟩ := hown9.len; rw [HLC.out] at hv9; subst hv9; have H9 : Hid (w9.heap[p]? = some (.cells #[.int .i64 n, .slice a2 cur.length cap2] 30 (0, 0)) ∧ OwnT w9 W.heap.size (.slice a9 (cur.length + 1) cap9) (cur ++ [h]) ∧ Below W.heap.size W w9) := ⟨(hbl9 p (Array.getElem?_eq_some_iff.1 HR.out.1.1).1 (HR.out.1.2.1.other HR.out.1.1 rangeNotText)).trans HR.out.1.1, hown9, HR.out.1.2.2.1.trans hb9⟩; clear hown9 hb9 hbl9 hown d0 d1 f0 f1; have H10 : Hid (OutAt W n p (.slice a9 (cur.length + 1) cap9) (cur ++ [h]) (w9.setCell ⟨p, 1, none⟩ (.slice a9 (cur.length + 1) cap9))) := ⟨heap_set_second H9.out.1, H9.out.2.1.setOther H9.out.1 rangeNotText, H9.out.2.2.setCell HR.out.1.2.2.2 _, HR.out.1.2.2.2⟩; have H11 : Hid (OutAt W ((n : Int) + 1) p (.slice a9 (cur.length + 1) cap9) (cur ++ [h]) ((w9.setCell ⟨p, 1, none⟩ (.slice a9 (cur.length + 1) cap9)).setCell ⟨p, 0, none⟩ (.int .i64 ((n : Int) + 1)))) := H10.out.size; obtain ⟨⟨d0, d1⟩, f0, f1⟩ := two_cells' (Below.refl w9.heap.size w9) (Array.getElem?_eq_some_iff.1 H9.out.1).1 H9.out.1; obtain ⟨⟨i0, i1⟩, g0, g1⟩ := two_cells' (Below.refl _ (w9.setCell ⟨p, 1, none⟩ (.slice a9 (cur.length + 1) cap9))) (Array.getElem?_eq_some_iff.1 H10.out.1).1 H10.out.1; obtain ⟨⟨c0, c1⟩, _, _⟩ := two_cells' H10.out.2.2.1 hlt HW.out.1; obtain ⟨⟨k0, k1⟩, _, _⟩ := two_cells' (Below.refl _ ((w9.setCell ⟨p, 1, none⟩ (.slice a9 (cur.length + 1) cap9)).setCell ⟨p, 0, none⟩ (.int .i64 ((n : Int) + 1)))) (Array.getElem?_eq_some_iff.1 H11.out.1).1 H11.out.1; obtain ⟨⟨r0, r1⟩, s0, s1⟩ := two_cells' H11.out.2.2.1 (show w.heap.size + 1 < W.heap.size by rw [← HW.out.2.2.2]; omega) HW.out.2.1; obtain ⟨_, t0, t1⟩ := two_cells' H9.out.2.2 (show w.heap.size + 1 < W.heap.size by rw [← HW.out.2.2.2]; omega) HW.out.2.1)
        have H12 : Hid (OwnT ((w9.setCell ⟨p, 1, none⟩ (.slice a9 (cur.length + 1) cap9)).setCell ⟨p, 0, none⟩ (.int .i64 ((n : Int) + 1))) W.heap.size (.slice a9 (cur.length + 1) cap9) AB ∧ Below w.heap.size w ((w9.setCell ⟨p, 1, none⟩ (.slice a9 (cur.length + 1) cap9)).setCell ⟨p, 0, none⟩ (.int .i64 ((n : Int) + 1)))) := ⟨by rw [← HR.out.2]; exact H11.out.2.1, HW.out.2.2.1.trans (H11.out.2.2.1.mono HW.out.2.2.1.size)⟩
        exact bodyPost_ret (v := .agg #[.int .i64 ((n : Int) + 1), .slice a9 (cur.length + 1) cap9]) (by simp [results, Tryd.results17, go_sem, r0, r1, s0, s1]) rfl
          ⟨_, rfl, ((H12.out.1.far (by rw [← HW.out.2.2.2]; omega)).far (by rw [← HW.out.2.2.2]; omega)).lower HW.out.2.2.1.size, (H12.out.2.setCell (Nat.le_succ _) _).setCell (Nat.le_succ _) _⟩
end Go.Proofs.YtollfcjbcfnfdaaDoor

/-
  The document's RangeAdd, at every argument.
-/
namespace Go.Proofs.YtollfcjbcfnfdaaDoor
open Go.RowKit Go.Lib
set_option linter.unusedVariables false
set_option linter.unusedSimpArgs false

set_option maxHeartbeats 2000000 in
set_option maxRecDepth 10000 in
theorem specAddN_any (size : Int) (v : Value) (l : List ByteArray) (t : ByteArray) (w : World) (h : Texts w w.heap.size v l) (hl : l.length ≤ 1048576) (h1 : ¬ 20000 < t.size) (hok : ¬ addOK size l t) :
    Calls Tryd.prog 17 #[.agg #[.int .i64 size, v], .string t] w fun e w' => RangeAns w size l e w' := by
  obtain ⟨W, hW⟩ : ∃ W, W = (w.alloc (.cells #[.int .i64 size, v] 30)).alloc (.cells #[.int .i64 0, .slice none 0 0] 30) := ⟨_, rfl⟩
  have HW : Hid (W.heap[w.heap.size]? = some (.cells #[.int .i64 size, v] 30 (0, 0)) ∧ W.heap[w.heap.size + 1]? = some (.cells #[.int .i64 0, .slice none 0 0] 30 (0, 0)) ∧ Below w.heap.size w W ∧ w.heap.size + 2 = W.heap.size) := by
    subst hW
    have s1 : (w.alloc (.cells #[.int .i64 size, v] 30)).heap.size = w.heap.size + 1 := by simp
    have h2 := heap_alloc_new (w.alloc (.cells #[.int .i64 size, v] 30)) (.cells #[.int .i64 0, .slice none 0 0] 30)
    rw [s1] at h2
    exact ⟨(heap_alloc_old _ _ (by rw [s1]; omega)).trans (heap_alloc_new w _), h2, ((Below.refl _ _).alloc (Nat.le_refl _) _).alloc (by rw [s1]; omega) _, by simp⟩
  have HWE : Hid (W = (w.alloc (.cells #[.int .i64 size, v] 30)).alloc (.cells #[.int .i64 0, .slice none 0 0] 30)) := hW
  have HT1 : Hid (∀ w', Below W.heap.size W w' → Texts w' w'.heap.size v l) := fun w' hb => ((h.below HW.out.2.2.1).below (hb.mono HW.out.2.2.1.size)).up (Nat.le_trans HW.out.2.2.1.size hb.size)
  have ER : Hid (∀ w', Below W.heap.size W w' → Calls Tryd.prog 57 #[.agg #[.int .i64 size, v]] w' fun e w'' => e = .returned (.bool (rangeB size l)) ∧ Below w'.heap.size w' w'') := fun w' hb => specRange_any size v l w' (HT1.out _ hb) hl
  have hlm : l.length ≤ 1048577 := by omega
  have h00 : ([] : List ByteArray).length ≤ 1048576 := by simp
  obtain ⟨a, cap, rfl, hx, hy⟩ := h
  have htz : ¬ 20000 < (t.size : Int) := by omega
  have HA : Hid (Below W.heap.size W W) := Below.refl _ _
  obtain ⟨⟨c0, c1⟩, _, _⟩ := two_cells' HA.out (show w.heap.size < W.heap.size by rw [← HW.out.2.2.2]; omega) HW.out.1
  have hdr : ∀ p, W.drew.cell? p = W.cell? p := fun _ => rfl
  have HOK : Hid (¬ addOK size l t) := hok
  clear hx hy hW hok h1
  go_enter Tryd.func17, Tryd.ntmps17
  go_wp2_with fail
  rw [← HWE.out]
  clear HWE
  have hlt : w.heap.size < W.heap.size := by rw [← HW.out.2.2.2]; omega
  have hne : ¬ w.heap.size = W.heap.size := by omega
  have hne1 : ¬ w.heap.size = W.heap.size + 1 := by omega
  have HM1 : Hid (OwnT ((W.drew.alloc (.cells #[.int .i64 0, .slice none 0 0] 30)).alloc (.cells #[] 9)) W.heap.size (.slice (some ⟨W.heap.size + 1, 0, none⟩) 0 0) []) := by
    have := OwnT.made (W.drew.alloc (.cells #[.int .i64 0, .slice none 0 0] 30)) W.heap.size (by simp)
    rw [show (W.drew.alloc (.cells #[.int .i64 0, .slice none 0 0] 30)).heap.size = W.heap.size + 1 by simp] at this
    exact this
  have HM2 : Hid (((W.drew.alloc (.cells #[] 9)).alloc (.cells #[.int .i64 0, .slice none 0 0] 30)).heap[W.heap.size + 1]? = some (.cells #[.int .i64 0, .slice none 0 0] 30 (0, 0))) := by
    have := heap_alloc_new (W.drew.alloc (.cells #[] 9)) (.cells #[.int .i64 0, .slice none 0 0] 30)
    rw [show (W.drew.alloc (.cells #[] 9)).heap.size = W.heap.size + 1 by simp] at this
    exact this
  go_cut [5] (fun o wx => ∃ p ax capx, o = .pointer (some ⟨p, 0, none⟩) ∧ OutAt W size p (.slice ax l.length capx) l wx)
  case first J K hJ hK =>
    go_region_law (first
      | (refine step_app_texts (w := W.drew.alloc (.cells #[] 9)) rfl (.tmp 15) (.tmp 17) rfl W.heap.size (.slice (some ⟨W.heap.size, 0, none⟩) 0 0) (.slice a l.length cap) [] l (by simp [Act.eval]) (OwnT.made W.drew _ (Nat.le_refl _)) (by simp [Act.eval]) (HT1.out _ ((below_drew' HA.out).alloc (Nat.le_refl _) _)) h00 hlm (by simp <;> omega) ?_; intro v4 w4 hown4 hb4 hbl4; rw [List.nil_append] at hown4; obtain ⟨ax, capx, rfl⟩ := hown4.len; have H4 : Hid (OwnT w4 W.heap.size (.slice ax l.length capx) l ∧ Below W.heap.size W w4) := ⟨hown4, ((below_drew' HA.out).alloc (Nat.le_refl _) _).trans hb4⟩; have hne4 : w.heap.size < w4.heap.size := Nat.lt_of_lt_of_le hlt H4.out.2.size; obtain ⟨⟨c0, c1⟩, _, _⟩ := two_cells' H4.out.2 hlt HW.out.1; have c50 : ∀ o, (w4.alloc o).cell? ⟨w.heap.size, 0, none⟩ = some (.int .i64 size) := fun o => (((Below.refl w4.heap.size w4).alloc (Nat.le_refl _) o).cell (p := ⟨w.heap.size, 0, none⟩) hne4).trans c0; clear hown4 hb4 hbl4)
      | (refine step_app_texts (w := (W.drew.alloc (.cells #[.int .i64 0, .slice none 0 0] 30)).alloc (.cells #[] 9)) rfl (.tmp 15) (.tmp 17) rfl W.heap.size (.slice (some ⟨W.heap.size + 1, 0, none⟩) 0 0) (.slice a l.length cap) [] l (by simp [Act.eval]) HM1.out (by simp [Act.eval]) (HT1.out _ (((below_drew' HA.out).alloc (Nat.le_refl _) _).alloc (by simp <;> omega) _)) h00 hlm (by simp <;> omega) ?_; intro v4 w4 hown4 hb4 hbl4; rw [List.nil_append] at hown4; obtain ⟨ax, capx, rfl⟩ := hown4.len; have H4 : Hid (OwnT w4 W.heap.size (.slice ax l.length capx) l ∧ Below W.heap.size W w4) := ⟨hown4, (((below_drew' HA.out).alloc (Nat.le_refl _) _).alloc (by simp <;> omega) _).trans hb4⟩; have hne4 : w.heap.size < w4.heap.size := Nat.lt_of_lt_of_le hlt H4.out.2.size; obtain ⟨⟨c0, c1⟩, _, _⟩ := two_cells' H4.out.2 hlt HW.out.1; have c50 : ∀ o, (w4.alloc o).cell? ⟨w.heap.size, 0, none⟩ = some (.int .i64 size) := fun o => (((Below.refl w4.heap.size w4).alloc (Nat.le_refl _) o).cell (p := ⟨w.heap.size, 0, none⟩) hne4).trans c0; have hp5 : w4.heap[W.heap.size]? = some (.cells #[.int .i64 0, .slice none 0 0] 30 (0, 0)) := (hbl4 _ (by simp <;> omega) (by simp [Value.ownBlock])).trans ((heap_alloc_old (W.drew.alloc (.cells #[.int .i64 0, .slice none 0 0] 30)) _ (by simp <;> omega)).trans (heap_alloc_new W.drew _)); obtain ⟨⟨d0, d1⟩, f0, f1⟩ := two_cells' (Below.refl w4.heap.size w4) (Array.getElem?_eq_some_iff.1 hp5).1 hp5; clear hown4 hb4 hbl4)
      | (refine step_app_texts (w := (W.drew.alloc (.cells #[] 9)).alloc (.cells #[.int .i64 0, .slice none 0 0] 30)) rfl (.tmp 15) (.tmp 17) rfl W.heap.size (.slice (some ⟨W.heap.size, 0, none⟩) 0 0) (.slice a l.length cap) [] l (by simp [Act.eval]) ((OwnT.made W.drew _ (Nat.le_refl _)).below ((Below.refl _ _).alloc (Nat.le_refl _) _) (Nat.le_refl _)) (by simp [Act.eval]) (HT1.out _ (((below_drew' HA.out).alloc (Nat.le_refl _) _).alloc (by simp <;> omega) _)) h00 hlm (by simp <;> omega) ?_; intro v4 w4 hown4 hb4 hbl4; rw [List.nil_append] at hown4; obtain ⟨ax, capx, rfl⟩ := hown4.len; have H4 : Hid (OwnT w4 W.heap.size (.slice ax l.length capx) l ∧ Below W.heap.size W w4) := ⟨hown4, (((below_drew' HA.out).alloc (Nat.le_refl _) _).alloc (by simp <;> omega) _).trans hb4⟩; have hne4 : w.heap.size < w4.heap.size := Nat.lt_of_lt_of_le hlt H4.out.2.size; obtain ⟨⟨c0, c1⟩, _, _⟩ := two_cells' H4.out.2 hlt HW.out.1; have c50 : ∀ o, (w4.alloc o).cell? ⟨w.heap.size, 0, none⟩ = some (.int .i64 size) := fun o => (((Below.refl w4.heap.size w4).alloc (Nat.le_refl _) o).cell (p := ⟨w.heap.size, 0, none⟩) hne4).trans c0; have hp5 : w4.heap[W.heap.size + 1]? = some (.cells #[.int .i64 0, .slice none 0 0] 30 (0, 0)) := (hbl4 _ (by simp <;> omega) (by simp [Value.ownBlock])).trans (HM2.out); obtain ⟨⟨d0, d1⟩, f0, f1⟩ := two_cells' (Below.refl w4.heap.size w4) (Array.getElem?_eq_some_iff.1 hp5).1 hp5; clear hown4 hb4 hbl4))
    all_goals
      refine hK _ _ (Met.intro (hJ _ _ ?_))
      (repeat apply Exists.intro)
      refine ⟨?rel, rfl⟩
      case rel => first
        | exact ⟨_, _, _, rfl, OutAt.made H4.out.1 H4.out.2⟩
        | exact ⟨_, _, _, rfl, OutAt.sets hp5 H4.out.1 H4.out.2 (Nat.le_refl _)⟩
        | exact ⟨_, _, _, rfl, OutAt.sets hp5 H4.out.1 H4.out.2 (Nat.le_succ _)⟩
  case rest =>
    obtain ⟨p, ax, capx, rfl, hout⟩ := hcut
    clear HM1 HM2 hdr c0 c1 HA hne hne1
    obtain ⟨⟨c0, c1⟩, _, _⟩ := two_cells' hout.2.2.1 hlt HW.out.1
    have H5 : Hid (OutAt W size p (.slice ax l.length capx) l wc) := hout
    clear hout
    go_wp2_with fail
    refine (ER.out _ H5.out.2.2.1).mono ?_
    rintro e w6 ⟨rfl, hb6⟩
    have H6 : Hid (OutAt W size p (.slice ax l.length capx) l w6) := H5.out.below hb6
    have H7 : Hid (Below w.heap.size w w6) := HW.out.2.2.1.trans (H6.out.2.2.1.mono HW.out.2.2.1.size)
    clear c0 c1 hb6 H5 ER
    obtain ⟨⟨c0, c1⟩, _, _⟩ := two_cells' H6.out.2.2.1 hlt HW.out.1
    obtain ⟨⟨k0, k1⟩, _, _⟩ := two_cells' (Below.refl w6.heap.size w6) (Array.getElem?_eq_some_iff.1 H6.out.1).1 H6.out.1
    obtain ⟨⟨r0, r1⟩, s0, s1⟩ := two_cells' H6.out.2.2.1 (show w.heap.size + 1 < W.heap.size by rw [← HW.out.2.2.2]; omega) HW.out.2.1
    by_cases hr : rangeB size l = true
    · have hr1 := (rangeB_yes hr).1
      rw [hr]
      by_cases hm : 1000000 ≤ size
      · have hmB : decide (1000000 ≤ size) = true := decide_eq_true hm
        clear hr1
        go_wp2
        exact bodyPost_ret (v := .agg #[.int .i64 size, .slice ax l.length capx]) (by simp [results, Tryd.results17, go_sem, r0, r1, s0, s1]) rfl
          ⟨_, rfl, ((H6.out.2.1.far (by rw [← HW.out.2.2.2]; omega)).far (by rw [← HW.out.2.2.2]; omega)).lower HW.out.2.2.1.size, (H7.out.setCell (Nat.le_succ _) _).setCell (Nat.le_succ _) _⟩
      · have htb : 100 < (t.size : Int) := by
          by_cases h9 : 100 < (t.size : Int)
          · exact h9
          · exact absurd ⟨hr, by omega, by omega⟩ HOK.out
        have hmB : decide (1000000 ≤ size) = false := decide_eq_false hm
        have htB : decide (100 < (t.size : Int)) = true := decide_eq_true htb
        clear hr1
        go_wp2
        exact bodyPost_ret (v := .agg #[.int .i64 size, .slice ax l.length capx]) (by simp [results, Tryd.results17, go_sem, r0, r1, s0, s1]) rfl
          ⟨_, rfl, ((H6.out.2.1.far (by rw [← HW.out.2.2.2]; omega)).far (by rw [← HW.out.2.2.2]; omega)).lower HW.out.2.2.1.size, (H7.out.setCell (Nat.le_succ _) _).setCell (Nat.le_succ _) _⟩
    · have hr' : rangeB size l = false := by simpa using hr
      rw [hr']
      go_wp2
      exact bodyPost_ret (v := .agg #[.int .i64 size, .slice ax l.length capx]) (by simp [results, Tryd.results17, go_sem, r0, r1, s0, s1]) rfl
        ⟨_, rfl, ((H6.out.2.1.far (by rw [← HW.out.2.2.2]; omega)).far (by rw [← HW.out.2.2.2]; omega)).lower HW.out.2.2.1.size, (H7.out.setCell (Nat.le_succ _) _).setCell (Nat.le_succ _) _⟩
set_option maxHeartbeats 2000000 in
theorem specAdd_any (size : Int) (v : Value) (l : List ByteArray) (t : ByteArray) (w : World) (h : Texts w w.heap.size v l) (hl : l.length ≤ 1048576) :
    Calls Tryd.prog 17 #[.agg #[.int .i64 size, v], .string t] w fun e w' => RangeAns w (addSize size l t) (addNodes size l t) e w' := by
  unfold addSize addNodes
  by_cases h1 : 20000 < t.size
  · rw [if_pos h1, if_pos h1]
    obtain ⟨a, cap, rfl, hx, hy⟩ := h
    have h1I : 20000 < (t.size : Int) := by omega
    have HB : Hid (∀ c1 c2, Below w.heap.size w ((w.alloc c1).alloc c2)) := fun c1 c2 => ((Below.refl _ _).alloc (Nat.le_refl _) _).alloc (by simp) _
    clear hx hy hl h1
    go_enter Tryd.func17, Tryd.ntmps17
    go_wp2
    exact bodyPost_ret (v := .agg #[.int .i64 0, .slice none 0 0]) (by simp [results, Tryd.results17, go_sem]) rfl ⟨_, rfl, OwnT.nil _ _, HB.out _ _⟩
  rw [if_neg h1, if_neg h1]
  by_cases hok : addOK size l t
  · rw [if_pos hok, if_pos hok]
    obtain ⟨n, rfl⟩ := Int.eq_ofNat_of_zero_le (rangeB_yes hok.1).1.1
    rw [Int.toNat_natCast]
    exact specAddY_any n v l t w h hok.1 (by have := hok.2.1; omega) hok.2.2
  · rw [if_neg hok, if_neg hok]
    exact specAddN_any size v l t w h hl h1 hok
end Go.Proofs.YtollfcjbcfnfdaaDoor
