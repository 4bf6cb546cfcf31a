/-
  The walk of the promise on signatures. Condition: the program's variable holds the rounds' numbers.
-/
import Derived.Test.YtollfcjbcfnfdaaDoorPkDrawSeed
import Derived.Test.YtollfcjbcfnfdaaDoorPkSpecSign
import Derived.Test.YtollfcjbcfnfdaaDoorPkTextRows
import Derived.Test.YtollfcjbcfnfdaaDoorPkImplTree
import Derived.Test.YtollfcjbcfnfdaaDoorPkImplSign
import Derived.Test.YtollfcjbcfnfdaaDoorPkTexts
import Derived.Test.YtollfcjbcfnfdaaDoorPkImplVerify
import Derived.Deep.RegionWith
import Derived.Deep.RegionHeld3
import Derived.Deep.DeepCutAuto
namespace Go.Proofs.YtollfcjbcfnfdaaDoor
open Go.RowKit Go.Lib
set_option linter.unusedVariables false
set_option linter.unusedSimpArgs false

theorem sigEnds_few (s : ByteArray) (k : Int) (t : ByteArray) : (sigEnds s k t).length ≤ 6 := by
  unfold sigEnds endsB
  split <;> simp
theorem sigPath_few (s : ByteArray) (k : Int) (t : ByteArray) : (sigPath s k t).length ≤ 5 := by
  unfold sigPath
  split
  · have := (path_pubs s k.toNat).1
    omega
  · simp
theorem empty_list {a : ByteArray} (h : a.size = 32) : a.toList.isEmpty = false := by
  rw [ByteArray.toList_eq]
  cases h2 : a.data.toList with
  | nil =>
    have : a.size = 0 := by
      have h3 : a.data.toList.length = 0 := by rw [h2]; rfl
      exact h3
    omega
  | cons x y => rfl
/-- In between: a signature in block b. -/
def FsIn (w : World) (b : Nat) (c : Array Value) (v1 v2 : Value) (el pl : List ByteArray) (W : World) : Prop :=
  Below w.heap.size w W ∧ W.heap[b]? = some (.cells c 46 (0, 0)) ∧ Texts W W.heap.size v1 el ∧ Texts W W.heap.size v2 pl ∧ Keys W
theorem FsIn.lt {w W : World} {b : Nat} {c : Array Value} {v1 v2 : Value} {el pl : List ByteArray} (h : FsIn w b c v1 v2 el pl W) : b < W.heap.size := (Array.getElem?_eq_some_iff.1 h.2.1).1
theorem FsIn.below {w W W' : World} {b : Nat} {c : Array Value} {v1 v2 : Value} {el pl : List ByteArray} (h : FsIn w b c v1 v2 el pl W) (hb : Below W.heap.size W W') : FsIn w b c v1 v2 el pl W' :=
  ⟨h.1.trans (hb.mono h.1.size), (hb.block _ h.lt).trans h.2.1, (h.2.2.1.below hb).up hb.size, (h.2.2.2.1.below hb).up hb.size, h.2.2.2.2.below hb h.2.2.2.2.lt⟩

set_option maxHeartbeats 8000000 in
set_option maxRecDepth 10000 in
theorem fnSign_any (a0 : Option Addr) (len0 cap0 : Nat) (a1 : Option Addr) (len1 cap1 : Nat) (w : World) (h0 : Code w w.heap.size a0 len0 ∧ len0 ≤ maxLen) (h1 : Code w w.heap.size a1 len1 ∧ len1 ≤ maxLen) (hK : Keys w) :
    Calls Tryd.prog 4 #[.slice a0 len0 cap0, .slice a1 len1 cap1] w fun e w' => e = .returned (.bool true) ∧ Below w.heap.size w w' := by
  obtain ⟨hc0, hl0⟩ := h0
  obtain ⟨hc1, hl1⟩ := h1
  unfold maxLen at hl0 hl1
  have HK : Hid (Keys w) := hK
  clear hK
  by_cases hb0 : 1048576 < (len0 : Int)
  · clear hc0 hc1
    go_enter Tryd.func4, Tryd.ntmps4
    go_wp2
    go_ret
    exact ⟨rfl, Below.refl _ _⟩
  by_cases hb1 : 1048576 < (len1 : Int)
  · clear hc0 hc1
    go_enter Tryd.func4, Tryd.ntmps4
    go_wp2
    go_ret
    exact ⟨rfl, Below.refl _ _⟩
  have E0 : Hid (Calls Tryd.prog 22 #[.slice a0 len0 cap0] w fun e w' => SignAns w e w') := drawSign_any a0 len0 cap0 w hc0 (by omega)
  have EV : Hid (∀ W, Below w.heap.size w W → Calls Tryd.prog 30 #[.slice a1 len1 cap1] W fun e w' => VerDrawn W e w') := fun W hb => drawVerify_any a1 len1 cap1 W (Code.behind hc1 hb) (by omega)
  clear hc0 hc1 hl0 hl1
  go_enter Tryd.func4, Tryd.ntmps4
  go_wp2_with fail
  refine E0.out.mono ?_
  rintro e w1 ⟨s, k, t, rfl, hs, hk0, hk1, ht, hb1'⟩
  have H1 : Hid (Below w.heap.size w w1 ∧ Keys w1) := ⟨hb1', HK.out.below hb1' HK.out.lt⟩
  clear hb1' E0
  have EI : Hid (∀ W, Keys W → Calls Tryd.prog 23 #[.string s, .int .i64 k, .string t] W fun e w' => SigAns W (sigKey s k t) (sigEnds s k t) (sigPath s k t) e w') := fun W hK => implSign_any s k t W (by omega) (by omega) hK
  have ET : Hid (∀ W, Calls Tryd.prog 26 #[.string s, .int .i64 k, .string t] W fun e w' => SigTold W (sigKey s k t) (sigEnds s k t) (sigPath s k t) e w') := fun W => specSign_any s k t W (by omega) (by omega)
  have EKI : Hid (∀ W, Keys W → Calls Tryd.prog 24 #[.string s] W fun e w' => e = .returned (.string (keyV s)) ∧ Below W.heap.size W w') := fun W hK => implKeyRoot_any s W (by omega) hK
  have ER : Hid (∀ W, Calls Tryd.prog 27 #[.string s] W fun e w' => e = .returned (.string (keyV s)) ∧ Below W.heap.size W w') := fun W => specKeyRoot_any s W (by omega)
  have hE := sigEnds_few s k t
  have hP := sigPath_few s k t
  have hst : sigRB (sigKey s k t) (sigEnds s k t) (sigPath s k t) = signB s k t := sig_told
  have hvt : signB s k t = true → verB (keyV s) t (sigKey s k t) (sigEnds s k t) (sigPath s k t) = true := fun h => by
    unfold sigKey sigEnds sigPath
    rw [if_pos h, if_pos h, if_pos h]
    exact ver_told h
  have hVi : signB s k t = (seedB s && decide (0 ≤ k ∧ k ≤ 3)) := signB_iff (by omega)
  have hkr1 : seedB s = true → (keyV s).size = 32 := keyV_size
  have hkr0 : seedB s = false → keyV s = ByteArray.empty := keyV_none
  have hrs : (keyV s).size ≤ 32 := by
    cases h : seedB s with
    | true => rw [keyV_size h]; exact Nat.le_refl _
    | false => rw [keyV_none h]; exact Nat.zero_le _
  have HV : Hid ((seedB s && decide (0 ≤ k ∧ k ≤ 3)) = signB s k t ∧ (signB s k t = true → verB (keyV s) t (sigKey s k t) (sigEnds s k t) (sigPath s k t) = true)) := ⟨hVi.symm, hvt⟩
  have EGI : Hid (∀ (x1 x2 : Value) W, Texts W W.heap.size x1 (sigEnds s k t) → Texts W W.heap.size x2 (sigPath s k t) → Calls Tryd.prog 28 #[.agg #[.int .i64 (sigKey s k t), x1, x2]] W fun e w' => e = .returned (.bool (signB s k t)) ∧ Below W.heap.size W w') := fun x1 x2 W h1 h2 => (implSigRight_any _ x1 x2 _ _ W h1 h2 (by omega) (by omega)).mono fun e w' h => ⟨by rw [← hst]; exact h.1, h.2⟩
  have EVI : Hid (∀ (x1 x2 : Value) W, Texts W W.heap.size x1 (sigEnds s k t) → Texts W W.heap.size x2 (sigPath s k t) → Keys W → signB s k t = true → Calls Tryd.prog 29 #[.string (keyV s), .string t, .agg #[.int .i64 (sigKey s k t), x1, x2]] W fun e w' => e = .returned (.bool true) ∧ Below W.heap.size W w') := fun x1 x2 W h1 h2 hK hy => (implVerify_any _ t _ x1 x2 _ _ W h1 h2 (by omega) (by omega) (by omega) (by omega) hK).mono fun e w' h => ⟨by rw [h.1, hvt hy], h.2⟩
  clear hst hvt hVi
  generalize sigKey s k t = KK at *
  generalize sigEnds s k t = EN at *
  generalize sigPath s k t = P at *
  generalize signB s k t = V at *
  generalize keyV s = R at *
  generalize hsb : seedB s = sb at *
  clear hsb hrs
  have EL : Hid (∀ (ve vp ue up : Value) W, Texts W W.heap.size ve EN → Texts W W.heap.size vp P → Texts W W.heap.size ue EN → Texts W W.heap.size up P → Calls Tryd.prog 25 #[.agg #[.int .i64 KK, ve, vp], .agg #[.int .i64 KK, ue, up]] W fun e w' => e = .returned (.bool true) ∧ Below W.heap.size W w') := fun ve vp ue up W h1 h2 h3 h4 => lwSig_any KK ve vp ue up EN P W h1 h2 h3 h4 (by omega) (by omega)
  go_wp2_with fail
  refine (EI.out _ H1.out.2).mono ?_
  rintro e w2 ⟨ve, vp, n, rfl, ho1, ho2, _, _, _, hb2⟩
  obtain ⟨a1, c1, rfl⟩ := ho1.len
  obtain ⟨a2, c2, rfl⟩ := ho2.len
  obtain ⟨W2, hW2⟩ : ∃ W, W = w2.alloc (.cells #[.int .i64 KK, .slice a1 EN.length c1, .slice a2 P.length c2] 46) := ⟨_, rfl⟩
  have hal : Below w2.heap.size w2 W2 := by rw [hW2]; exact (Below.refl _ _).alloc (Nat.le_refl _) _
  have hb12 : Below w1.heap.size w1 W2 := hb2.trans (hal.mono hb2.size)
  have I2 : Hid (FsIn w w2.heap.size #[.int .i64 KK, .slice a1 EN.length c1, .slice a2 P.length c2] (.slice a1 EN.length c1) (.slice a2 P.length c2) EN P W2) := ⟨H1.out.1.trans (hb12.mono H1.out.1.size), by rw [hW2]; exact heap_alloc_new w2 _, (ho1.texts.below hal).up hal.size, (ho2.texts.below hal).up hal.size, H1.out.2.below hb12 H1.out.2.lt⟩
  have HW2 : Hid (W2 = w2.alloc (.cells #[.int .i64 KK, .slice a1 EN.length c1, .slice a2 P.length c2] 46)) := hW2
  clear ho1 ho2 hb2 hal hb12 hW2 H1 EI
  go_wp2_with fail
  rw [← HW2.out]
  clear HW2
  generalize hbb : w2.heap.size = b at *
  clear hbb
  refine (EKI.out _ I2.out.2.2.2.2).mono ?_
  rintro e w3 ⟨rfl, hb3⟩
  have I3 : Hid (FsIn w b #[.int .i64 KK, .slice a1 EN.length c1, .slice a2 P.length c2] (.slice a1 EN.length c1) (.slice a2 P.length c2) EN P w3) := I2.out.below hb3
  have I3d : Hid (FsIn w b #[.int .i64 KK, .slice a1 EN.length c1, .slice a2 P.length c2] (.slice a1 EN.length c1) (.slice a2 P.length c2) EN P w3.drew) := I3.out.below (below_drew' (Below.refl _ _))
  clear hb3 I2 EKI
  have HC : Hid (∀ X, FsIn w b #[.int .i64 KK, .slice a1 EN.length c1, .slice a2 P.length c2] (.slice a1 EN.length c1) (.slice a2 P.length c2) EN P X → X.cell? ⟨b, 0, none⟩ = some (.int .i64 KK) ∧ X.cell? ⟨b, 1, none⟩ = some (.slice a1 EN.length c1) ∧ X.cell? ⟨b, 2, none⟩ = some (.slice a2 P.length c2)) := fun X h => (three_cells (Below.refl X.heap.size X) h.lt h.2.1).1
  have ES : Hid (∀ W, FsIn w b #[.int .i64 KK, .slice a1 EN.length c1, .slice a2 P.length c2] (.slice a1 EN.length c1) (.slice a2 P.length c2) EN P W → Calls Tryd.prog 26 #[.string s, .int .i64 k, .string t] W fun e w' => ∃ ue up, e = .returned (.agg #[.int .i64 KK, ue, up]) ∧ Texts w' w'.heap.size ue EN ∧ Texts w' w'.heap.size up P ∧ FsIn w b #[.int .i64 KK, .slice a1 EN.length c1, .slice a2 P.length c2] (.slice a1 EN.length c1) (.slice a2 P.length c2) EN P w') := fun W hI => (ET.out W).mono fun e w' ⟨ue, up, e1, e2, e3, e4⟩ => ⟨ue, up, e1, e2.texts, e3.texts, hI.below e4⟩
  have EG : Hid (∀ W, FsIn w b #[.int .i64 KK, .slice a1 EN.length c1, .slice a2 P.length c2] (.slice a1 EN.length c1) (.slice a2 P.length c2) EN P W → Calls Tryd.prog 28 #[.agg #[.int .i64 KK, .slice a1 EN.length c1, .slice a2 P.length c2]] W fun e w' => e = .returned (.bool V) ∧ Below W.heap.size W w') := fun W hI => EGI.out _ _ W hI.2.2.1 hI.2.2.2.1
  have EY : Hid (∀ W, FsIn w b #[.int .i64 KK, .slice a1 EN.length c1, .slice a2 P.length c2] (.slice a1 EN.length c1) (.slice a2 P.length c2) EN P W → V = true → Calls Tryd.prog 29 #[.string R, .string t, .agg #[.int .i64 KK, .slice a1 EN.length c1, .slice a2 P.length c2]] W fun e w' => e = .returned (.bool true) ∧ Below W.heap.size W w') := fun W hI hy => EVI.out _ _ W hI.2.2.1 hI.2.2.2.1 hI.2.2.2.2 hy
  obtain ⟨x0, x1, x2⟩ := HC.out _ I3.out
  have hRR : (R.toList == R.toList) = true := by simp
  clear ET EGI EVI hs ht hE hP
  go_wp2_with fail
  go_cut [60] (fun x wx => x = .bool false ∧ FsIn w b #[.int .i64 KK, .slice a1 EN.length c1, .slice a2 P.length c2] (.slice a1 EN.length c1) (.slice a2 P.length c2) EN P wx)
  case first J K hJ hK =>
    cases sb with
    | true =>
      have hem : R.toList.isEmpty = false := empty_list (hkr1 rfl)
      clear hkr1 hkr0
      by_cases hkn : 0 ≤ k
      · by_cases hk4 : k < 4
        · have hVt : V = true := by rw [← HV.out.1, decide_eq_true ⟨hkn, by omega⟩]; rfl
          subst hVt
          go_region_held3 (fun X => X.cell? ⟨b, 0, none⟩ = some (.int .i64 KK) ∧ X.cell? ⟨b, 1, none⟩ = some (.slice a1 EN.length c1) ∧ X.cell? ⟨b, 2, none⟩ = some (.slice a2 P.length c2)) (go_keep)
            (first
              | (go_at_call 26; (with_reducible refine (ES.out _ ?_).mono ?_); (first | exact I3.out | exact I3d.out); rintro e wa ⟨ue, up, rfl, hu1, hu2, hia⟩; have IA : Hid (FsIn w b #[.int .i64 KK, .slice a1 EN.length c1, .slice a2 P.length c2] (.slice a1 EN.length c1) (.slice a2 P.length c2) EN P wa ∧ Texts wa wa.heap.size ue EN ∧ Texts wa wa.heap.size up P) := ⟨hia, hu1, hu2⟩; obtain ⟨x0, x1, x2⟩ := HC.out _ hia; clear hia hu1 hu2)
              | (go_at_call 25; (with_reducible refine (EL.out _ _ _ _ _ ?_ ?_ ?_ ?_).mono ?_); exact IA.out.1.2.2.1; exact IA.out.1.2.2.2.1; exact IA.out.2.1; exact IA.out.2.2; rintro e wb ⟨rfl, hbb⟩; have IB : Hid (FsIn w b #[.int .i64 KK, .slice a1 EN.length c1, .slice a2 P.length c2] (.slice a1 EN.length c1) (.slice a2 P.length c2) EN P wb) := IA.out.1.below hbb; obtain ⟨y0, y1, y2⟩ := HC.out _ IB.out; clear hbb)
              | (go_at_call 27; (with_reducible refine (ER.out _).mono ?_); rintro e wc ⟨rfl, hbc⟩; have IC : Hid (FsIn w b #[.int .i64 KK, .slice a1 EN.length c1, .slice a2 P.length c2] (.slice a1 EN.length c1) (.slice a2 P.length c2) EN P wc) := IB.out.below hbc; obtain ⟨z0, z1, z2⟩ := HC.out _ IC.out; clear hbc)
              | (go_at_call 28; (with_reducible refine (EG.out _ ?_).mono ?_); exact IC.out; rintro e wd ⟨rfl, hbd⟩; have ID : Hid (FsIn w b #[.int .i64 KK, .slice a1 EN.length c1, .slice a2 P.length c2] (.slice a1 EN.length c1) (.slice a2 P.length c2) EN P wd) := IC.out.below hbd; obtain ⟨u0, u1, u2⟩ := HC.out _ ID.out; clear hbd))
          all_goals
            refine hK _ _ (Met.intro (hJ _ _ ?_))
            (repeat apply Exists.intro)
            refine ⟨?rel, rfl⟩
            case rel => exact ⟨rfl, by first | exact ID.out | exact ID.out.below (below_drew' (Below.refl _ _))⟩
        · have hVf : V = false := by rw [← HV.out.1, decide_eq_false (by omega)]; rfl
          subst hVf
          go_region_held3 (fun X => X.cell? ⟨b, 0, none⟩ = some (.int .i64 KK) ∧ X.cell? ⟨b, 1, none⟩ = some (.slice a1 EN.length c1) ∧ X.cell? ⟨b, 2, none⟩ = some (.slice a2 P.length c2)) (go_keep)
            (first
              | (go_at_call 26; (with_reducible refine (ES.out _ ?_).mono ?_); (first | exact I3.out | exact I3d.out); rintro e wa ⟨ue, up, rfl, hu1, hu2, hia⟩; have IA : Hid (FsIn w b #[.int .i64 KK, .slice a1 EN.length c1, .slice a2 P.length c2] (.slice a1 EN.length c1) (.slice a2 P.length c2) EN P wa ∧ Texts wa wa.heap.size ue EN ∧ Texts wa wa.heap.size up P) := ⟨hia, hu1, hu2⟩; obtain ⟨x0, x1, x2⟩ := HC.out _ hia; clear hia hu1 hu2)
              | (go_at_call 25; (with_reducible refine (EL.out _ _ _ _ _ ?_ ?_ ?_ ?_).mono ?_); exact IA.out.1.2.2.1; exact IA.out.1.2.2.2.1; exact IA.out.2.1; exact IA.out.2.2; rintro e wb ⟨rfl, hbb⟩; have IB : Hid (FsIn w b #[.int .i64 KK, .slice a1 EN.length c1, .slice a2 P.length c2] (.slice a1 EN.length c1) (.slice a2 P.length c2) EN P wb) := IA.out.1.below hbb; obtain ⟨y0, y1, y2⟩ := HC.out _ IB.out; clear hbb)
              | (go_at_call 27; (with_reducible refine (ER.out _).mono ?_); rintro e wc ⟨rfl, hbc⟩; have IC : Hid (FsIn w b #[.int .i64 KK, .slice a1 EN.length c1, .slice a2 P.length c2] (.slice a1 EN.length c1) (.slice a2 P.length c2) EN P wc) := IB.out.below hbc; obtain ⟨z0, z1, z2⟩ := HC.out _ IC.out; clear hbc)
              | (go_at_call 28; (with_reducible refine (EG.out _ ?_).mono ?_); exact IC.out; rintro e wd ⟨rfl, hbd⟩; have ID : Hid (FsIn w b #[.int .i64 KK, .slice a1 EN.length c1, .slice a2 P.length c2] (.slice a1 EN.length c1) (.slice a2 P.length c2) EN P wd) := IC.out.below hbd; obtain ⟨u0, u1, u2⟩ := HC.out _ ID.out; clear hbd))
          all_goals
            refine hK _ _ (Met.intro (hJ _ _ ?_))
            (repeat apply Exists.intro)
            refine ⟨?rel, rfl⟩
            case rel => exact ⟨by first | rfl | exact congrArg Value.bool (decide_eq_false (by omega)), by first | exact ID.out | exact ID.out.below (below_drew' (Below.refl _ _))⟩
      · have hVf : V = false := by rw [← HV.out.1, decide_eq_false (by omega)]; rfl
        subst hVf
        refine wp_region_any (by kernel_rfl) ?_
        try (change wpAny _ _ _ _ _ _ _ (World.drew _))
        refine wpAny_take (i := 1) (v := .string s) rfl (by kernel_rfl) (by kernel_rfl) (by kernel_rfl) (fun _ _ _ h => h) (Or.inl ⟨by kernel_rfl, fun w => by go_simp⟩) ?_
        refine wpAny_take (i := 2) (v := .int .i64 k) rfl (by kernel_rfl) (by kernel_rfl) (by kernel_rfl) (fun _ _ _ h => h) (Or.inl ⟨by kernel_rfl, fun w => by go_simp⟩) ?_
        refine wpAny_take (i := 3) (v := .string t) rfl (by kernel_rfl) (by kernel_rfl) (by kernel_rfl) (fun _ _ _ h => h) (Or.inl ⟨by kernel_rfl, fun w => by go_simp⟩) ?_
        refine wpAny_ready (rs := [0, 4]) (by kernel_rfl) (by simp) ?_
        refine AllReady.cons rfl (fun K' hK' => ?_) (AllReady.cons rfl (fun K' hK' => ?_) AllReady.nil)
        · go_simp
          refine hK' _ _ ?_
          clear hK' K'
          refine wpAny_ready (rs := [4]) (by kernel_rfl) (by simp) ?_
          refine AllReady.cons rfl (fun K' hK' => ?_) AllReady.nil
          go_simp
          go_wp2_with ((go_at_call 26; (with_reducible refine (ES.out _ ?_).mono ?_); (first | exact I3.out | exact I3d.out); rintro e wa ⟨ue, up, rfl, hu1, hu2, hia⟩; have IA : Hid (FsIn w b #[.int .i64 KK, .slice a1 EN.length c1, .slice a2 P.length c2] (.slice a1 EN.length c1) (.slice a2 P.length c2) EN P wa ∧ Texts wa wa.heap.size ue EN ∧ Texts wa wa.heap.size up P) := ⟨hia, hu1, hu2⟩; obtain ⟨x0, x1, x2⟩ := HC.out _ hia; clear hia hu1 hu2))
          refine wpAny_ready (rs := [5]) (by kernel_rfl) (by simp) ?_
          refine AllReady.cons rfl (fun K' hK' => ?_) AllReady.nil
          go_simp
          go_wp2_with ((go_at_call 25; (with_reducible refine (EL.out _ _ _ _ _ ?_ ?_ ?_ ?_).mono ?_); exact IA.out.1.2.2.1; exact IA.out.1.2.2.2.1; exact IA.out.2.1; exact IA.out.2.2; rintro e wb ⟨rfl, hbb⟩; have IB : Hid (FsIn w b #[.int .i64 KK, .slice a1 EN.length c1, .slice a2 P.length c2] (.slice a1 EN.length c1) (.slice a2 P.length c2) EN P wb) := IA.out.1.below hbb; obtain ⟨y0, y1, y2⟩ := HC.out _ IB.out; clear hbb))
          refine wpAny_take (i := 6) (v := .bool false) rfl (by kernel_rfl) (by kernel_rfl) (by kernel_rfl) (fun _ _ _ h => h) (Or.inl ⟨by kernel_rfl, fun w => by go_simp⟩) ?_
          refine wpAny_take (i := 7) (v := .bool false) rfl (by kernel_rfl) (by kernel_rfl) (by kernel_rfl) (fun _ _ _ h => h) (Or.inl ⟨by kernel_rfl, fun w => by go_simp⟩) ?_
          refine wpAny_take (i := 8) (v := .string R) rfl (by kernel_rfl) (by kernel_rfl) (by kernel_rfl) (fun _ _ _ h => h) (Or.inl ⟨by kernel_rfl, fun w => by go_simp⟩) ?_
          refine wpAny_take (i := 9) (v := .string s) rfl (by kernel_rfl) (by kernel_rfl) (by kernel_rfl) (fun _ _ _ h => h) (Or.inl ⟨by kernel_rfl, fun w => by go_simp⟩) ?_
          refine wpAny_ready (rs := [10]) (by kernel_rfl) (by simp) ?_
          refine AllReady.cons rfl (fun K' hK' => ?_) AllReady.nil
          go_simp
          go_wp2_with ((go_at_call 27; (with_reducible refine (ER.out _).mono ?_); rintro e wc ⟨rfl, hbc⟩; have IC : Hid (FsIn w b #[.int .i64 KK, .slice a1 EN.length c1, .slice a2 P.length c2] (.slice a1 EN.length c1) (.slice a2 P.length c2) EN P wc) := IB.out.below hbc; obtain ⟨z0, z1, z2⟩ := HC.out _ IC.out; clear hbc))
          refine wpAny_take (i := 11) (v := .bool false) rfl (by kernel_rfl) (by kernel_rfl) (by kernel_rfl) (fun _ _ _ h => h) (Or.inl ⟨by kernel_rfl, fun w => by go_simp⟩) ?_
          refine wpAny_take (i := 12) (v := .bool false) rfl (by kernel_rfl) (by kernel_rfl) (by kernel_rfl) (fun _ _ _ h => h) (Or.inl ⟨by kernel_rfl, fun w => by go_simp⟩) ?_
          refine wpAny_take (i := 13) (v := .bool false) rfl (by kernel_rfl) (by kernel_rfl) (by kernel_rfl) (fun _ _ _ h => h) (Or.inl ⟨by kernel_rfl, fun w => by go_simp⟩) ?_
          refine wpAny_take (i := 16) (v := .string R) rfl (by kernel_rfl) (by kernel_rfl) (by kernel_rfl) (fun _ _ _ h => h) (Or.inl ⟨by kernel_rfl, fun w => by go_simp⟩) ?_
          refine wpAny_take (i := 17) (v := .bool true) rfl (by kernel_rfl) (by kernel_rfl) (by kernel_rfl) (fun _ _ _ h => h) (Or.inl ⟨by kernel_rfl, fun w => by go_simp⟩) ?_
          refine wpAny_ready (rs := [14]) (by kernel_rfl) (by simp) ?_
          refine AllReady.cons rfl (fun K' hK' => ?_) AllReady.nil
          go_simp
          refine hK' _ _ ?_
          clear hK' K'
          refine wpAny_ready (rs := [15]) (by kernel_rfl) (by simp) ?_
          refine AllReady.cons rfl (fun K' hK' => ?_) AllReady.nil
          go_simp
          go_wp2_with ((go_at_call 28; (with_reducible refine (EG.out _ ?_).mono ?_); exact IC.out; rintro e wd ⟨rfl, hbd⟩; have ID : Hid (FsIn w b #[.int .i64 KK, .slice a1 EN.length c1, .slice a2 P.length c2] (.slice a1 EN.length c1) (.slice a2 P.length c2) EN P wd) := IC.out.below hbd; obtain ⟨u0, u1, u2⟩ := HC.out _ ID.out; clear hbd))
          refine wpAny_take (i := 18) (v := .bool true) rfl (by kernel_rfl) (by kernel_rfl) (by kernel_rfl) (fun _ _ _ h => h) (Or.inl ⟨by kernel_rfl, fun w => by go_simp⟩) ?_
          refine wpAny_take (i := 19) (v := .int .i64 k) rfl (by kernel_rfl) (by kernel_rfl) (by kernel_rfl) (fun _ _ _ h => h) (Or.inl ⟨by kernel_rfl, fun w => by go_simp⟩) ?_
          refine wpAny_take (i := 20) (v := .bool false) rfl (by kernel_rfl) (by kernel_rfl) (by kernel_rfl) (fun _ _ _ h => h) (Or.inl ⟨by kernel_rfl, fun w => by go_simp⟩) ?_
          refine wpAny_take (i := 21) (v := .bool false) rfl (by kernel_rfl) (by kernel_rfl) (by kernel_rfl) (fun _ _ _ h => h) (Or.inl ⟨by kernel_rfl, fun w => by go_simp⟩) ?_
          refine wpAny_take (i := 22) (v := .bool false) rfl (by kernel_rfl) (by kernel_rfl) (by kernel_rfl) (fun _ _ _ h => h) (Or.inl ⟨by kernel_rfl, fun w => by go_simp⟩) ?_
          refine wpAny_take (i := 23) (v := undef) rfl (by kernel_rfl) (by kernel_rfl) (by kernel_rfl) (fun _ _ _ h => h) (Or.inr ⟨by kernel_rfl, rfl⟩) ?_
          refine wpAny_take (i := 24) (v := undef) rfl (by kernel_rfl) (by kernel_rfl) (by kernel_rfl) (fun _ _ _ h => h) (Or.inr ⟨by kernel_rfl, rfl⟩) ?_
          refine wpAny_take (i := 25) (v := .bool false) rfl (by kernel_rfl) (by kernel_rfl) (by kernel_rfl) (fun _ _ _ h => h) (Or.inl ⟨by kernel_rfl, fun w => by go_simp⟩) ?_
          refine wpAny_take (i := 26) (v := .bool false) rfl (by kernel_rfl) (by kernel_rfl) (by kernel_rfl) (fun _ _ _ h => h) (Or.inl ⟨by kernel_rfl, fun w => by go_simp⟩) ?_
          refine wpAny_take (i := 27) (v := .bool false) rfl (by kernel_rfl) (by kernel_rfl) (by kernel_rfl) (fun _ _ _ h => h) (Or.inl ⟨by kernel_rfl, fun w => by go_simp⟩) ?_
          refine wpAny_done (by kernel_rfl) ?_ _
          go_simp
          refine hK _ _ (Met.intro (hJ _ _ ?_))
          (repeat apply Exists.intro)
          refine ⟨?rel, rfl⟩
          case rel => exact ⟨rfl, ID.out⟩
        · go_simp
          go_wp2_with ((go_at_call 26; (with_reducible refine (ES.out _ ?_).mono ?_); (first | exact I3.out | exact I3d.out); rintro e wa ⟨ue, up, rfl, hu1, hu2, hia⟩; have IA : Hid (FsIn w b #[.int .i64 KK, .slice a1 EN.length c1, .slice a2 P.length c2] (.slice a1 EN.length c1) (.slice a2 P.length c2) EN P wa ∧ Texts wa wa.heap.size ue EN ∧ Texts wa wa.heap.size up P) := ⟨hia, hu1, hu2⟩; obtain ⟨x0, x1, x2⟩ := HC.out _ hia; clear hia hu1 hu2))
          refine wpAny_ready (rs := [0]) (by kernel_rfl) (by simp) ?_
          refine AllReady.cons rfl (fun K' hK' => ?_) AllReady.nil
          go_simp
          refine hK' _ _ ?_
          clear hK' K'
          refine wpAny_ready (rs := [5]) (by kernel_rfl) (by simp) ?_
          refine AllReady.cons rfl (fun K' hK' => ?_) AllReady.nil
          go_simp
          go_wp2_with ((go_at_call 25; (with_reducible refine (EL.out _ _ _ _ _ ?_ ?_ ?_ ?_).mono ?_); exact IA.out.1.2.2.1; exact IA.out.1.2.2.2.1; exact IA.out.2.1; exact IA.out.2.2; rintro e wb ⟨rfl, hbb⟩; have IB : Hid (FsIn w b #[.int .i64 KK, .slice a1 EN.length c1, .slice a2 P.length c2] (.slice a1 EN.length c1) (.slice a2 P.length c2) EN P wb) := IA.out.1.below hbb; obtain ⟨y0, y1, y2⟩ := HC.out _ IB.out; clear hbb))
          refine wpAny_take (i := 6) (v := .bool false) rfl (by kernel_rfl) (by kernel_rfl) (by kernel_rfl) (fun _ _ _ h => h) (Or.inl ⟨by kernel_rfl, fun w => by go_simp⟩) ?_
          refine wpAny_take (i := 7) (v := .bool false) rfl (by kernel_rfl) (by kernel_rfl) (by kernel_rfl) (fun _ _ _ h => h) (Or.inl ⟨by kernel_rfl, fun w => by go_simp⟩) ?_
          refine wpAny_take (i := 8) (v := .string R) rfl (by kernel_rfl) (by kernel_rfl) (by kernel_rfl) (fun _ _ _ h => h) (Or.inl ⟨by kernel_rfl, fun w => by go_simp⟩) ?_
          refine wpAny_take (i := 9) (v := .string s) rfl (by kernel_rfl) (by kernel_rfl) (by kernel_rfl) (fun _ _ _ h => h) (Or.inl ⟨by kernel_rfl, fun w => by go_simp⟩) ?_
          refine wpAny_ready (rs := [10]) (by kernel_rfl) (by simp) ?_
          refine AllReady.cons rfl (fun K' hK' => ?_) AllReady.nil
          go_simp
          go_wp2_with ((go_at_call 27; (with_reducible refine (ER.out _).mono ?_); rintro e wc ⟨rfl, hbc⟩; have IC : Hid (FsIn w b #[.int .i64 KK, .slice a1 EN.length c1, .slice a2 P.length c2] (.slice a1 EN.length c1) (.slice a2 P.length c2) EN P wc) := IB.out.below hbc; obtain ⟨z0, z1, z2⟩ := HC.out _ IC.out; clear hbc))
          refine wpAny_take (i := 11) (v := .bool false) rfl (by kernel_rfl) (by kernel_rfl) (by kernel_rfl) (fun _ _ _ h => h) (Or.inl ⟨by kernel_rfl, fun w => by go_simp⟩) ?_
          refine wpAny_take (i := 12) (v := .bool false) rfl (by kernel_rfl) (by kernel_rfl) (by kernel_rfl) (fun _ _ _ h => h) (Or.inl ⟨by kernel_rfl, fun w => by go_simp⟩) ?_
          refine wpAny_take (i := 13) (v := .bool false) rfl (by kernel_rfl) (by kernel_rfl) (by kernel_rfl) (fun _ _ _ h => h) (Or.inl ⟨by kernel_rfl, fun w => by go_simp⟩) ?_
          refine wpAny_take (i := 16) (v := .string R) rfl (by kernel_rfl) (by kernel_rfl) (by kernel_rfl) (fun _ _ _ h => h) (Or.inl ⟨by kernel_rfl, fun w => by go_simp⟩) ?_
          refine wpAny_take (i := 17) (v := .bool true) rfl (by kernel_rfl) (by kernel_rfl) (by kernel_rfl) (fun _ _ _ h => h) (Or.inl ⟨by kernel_rfl, fun w => by go_simp⟩) ?_
          refine wpAny_ready (rs := [14]) (by kernel_rfl) (by simp) ?_
          refine AllReady.cons rfl (fun K' hK' => ?_) AllReady.nil
          go_simp
          refine hK' _ _ ?_
          clear hK' K'
          refine wpAny_ready (rs := [15]) (by kernel_rfl) (by simp) ?_
          refine AllReady.cons rfl (fun K' hK' => ?_) AllReady.nil
          go_simp
          go_wp2_with ((go_at_call 28; (with_reducible refine (EG.out _ ?_).mono ?_); exact IC.out; rintro e wd ⟨rfl, hbd⟩; have ID : Hid (FsIn w b #[.int .i64 KK, .slice a1 EN.length c1, .slice a2 P.length c2] (.slice a1 EN.length c1) (.slice a2 P.length c2) EN P wd) := IC.out.below hbd; obtain ⟨u0, u1, u2⟩ := HC.out _ ID.out; clear hbd))
          refine wpAny_take (i := 18) (v := .bool true) rfl (by kernel_rfl) (by kernel_rfl) (by kernel_rfl) (fun _ _ _ h => h) (Or.inl ⟨by kernel_rfl, fun w => by go_simp⟩) ?_
          refine wpAny_take (i := 19) (v := .int .i64 k) rfl (by kernel_rfl) (by kernel_rfl) (by kernel_rfl) (fun _ _ _ h => h) (Or.inl ⟨by kernel_rfl, fun w => by go_simp⟩) ?_
          refine wpAny_take (i := 20) (v := .bool false) rfl (by kernel_rfl) (by kernel_rfl) (by kernel_rfl) (fun _ _ _ h => h) (Or.inl ⟨by kernel_rfl, fun w => by go_simp⟩) ?_
          refine wpAny_take (i := 21) (v := .bool false) rfl (by kernel_rfl) (by kernel_rfl) (by kernel_rfl) (fun _ _ _ h => h) (Or.inl ⟨by kernel_rfl, fun w => by go_simp⟩) ?_
          refine wpAny_take (i := 22) (v := .bool false) rfl (by kernel_rfl) (by kernel_rfl) (by kernel_rfl) (fun _ _ _ h => h) (Or.inl ⟨by kernel_rfl, fun w => by go_simp⟩) ?_
          refine wpAny_take (i := 23) (v := undef) rfl (by kernel_rfl) (by kernel_rfl) (by kernel_rfl) (fun _ _ _ h => h) (Or.inr ⟨by kernel_rfl, rfl⟩) ?_
          refine wpAny_take (i := 24) (v := undef) rfl (by kernel_rfl) (by kernel_rfl) (by kernel_rfl) (fun _ _ _ h => h) (Or.inr ⟨by kernel_rfl, rfl⟩) ?_
          refine wpAny_take (i := 25) (v := .bool false) rfl (by kernel_rfl) (by kernel_rfl) (by kernel_rfl) (fun _ _ _ h => h) (Or.inl ⟨by kernel_rfl, fun w => by go_simp⟩) ?_
          refine wpAny_take (i := 26) (v := .bool false) rfl (by kernel_rfl) (by kernel_rfl) (by kernel_rfl) (fun _ _ _ h => h) (Or.inl ⟨by kernel_rfl, fun w => by go_simp⟩) ?_
          refine wpAny_take (i := 27) (v := .bool false) rfl (by kernel_rfl) (by kernel_rfl) (by kernel_rfl) (fun _ _ _ h => h) (Or.inl ⟨by kernel_rfl, fun w => by go_simp⟩) ?_
          refine wpAny_done (by kernel_rfl) ?_ _
          go_simp
          refine hK _ _ (Met.intro (hJ _ _ ?_))
          (repeat apply Exists.intro)
          refine ⟨?rel, rfl⟩
          case rel => exact ⟨rfl, ID.out⟩
    | false =>
      have hem : R.toList.isEmpty = true := by rw [hkr0 rfl, ByteArray.toList_eq]; rfl
      have hVf : V = false := by rw [← HV.out.1]; rfl
      subst hVf
      clear hkr1 hkr0
      refine wp_region_any (by kernel_rfl) ?_
      try (change wpAny _ _ _ _ _ _ _ (World.drew _))
      refine wpAny_take (i := 1) (v := .string s) rfl (by kernel_rfl) (by kernel_rfl) (by kernel_rfl) (fun _ _ _ h => h) (Or.inl ⟨by kernel_rfl, fun w => by go_simp⟩) ?_
      refine wpAny_take (i := 2) (v := .int .i64 k) rfl (by kernel_rfl) (by kernel_rfl) (by kernel_rfl) (fun _ _ _ h => h) (Or.inl ⟨by kernel_rfl, fun w => by go_simp⟩) ?_
      refine wpAny_take (i := 3) (v := .string t) rfl (by kernel_rfl) (by kernel_rfl) (by kernel_rfl) (fun _ _ _ h => h) (Or.inl ⟨by kernel_rfl, fun w => by go_simp⟩) ?_
      refine wpAny_ready (rs := [0, 4]) (by kernel_rfl) (by simp) ?_
      refine AllReady.cons rfl (fun K' hK' => ?_) (AllReady.cons rfl (fun K' hK' => ?_) AllReady.nil)
      · go_simp
        refine hK' _ _ ?_
        clear hK' K'
        refine wpAny_ready (rs := [4]) (by kernel_rfl) (by simp) ?_
        refine AllReady.cons rfl (fun K' hK' => ?_) AllReady.nil
        go_simp
        go_wp2_with ((go_at_call 26; (with_reducible refine (ES.out _ ?_).mono ?_); (first | exact I3.out | exact I3d.out); rintro e wa ⟨ue, up, rfl, hu1, hu2, hia⟩; have IA : Hid (FsIn w b #[.int .i64 KK, .slice a1 EN.length c1, .slice a2 P.length c2] (.slice a1 EN.length c1) (.slice a2 P.length c2) EN P wa ∧ Texts wa wa.heap.size ue EN ∧ Texts wa wa.heap.size up P) := ⟨hia, hu1, hu2⟩; obtain ⟨x0, x1, x2⟩ := HC.out _ hia; clear hia hu1 hu2))
        refine wpAny_ready (rs := [5]) (by kernel_rfl) (by simp) ?_
        refine AllReady.cons rfl (fun K' hK' => ?_) AllReady.nil
        go_simp
        go_wp2_with ((go_at_call 25; (with_reducible refine (EL.out _ _ _ _ _ ?_ ?_ ?_ ?_).mono ?_); exact IA.out.1.2.2.1; exact IA.out.1.2.2.2.1; exact IA.out.2.1; exact IA.out.2.2; rintro e wb ⟨rfl, hbb⟩; have IB : Hid (FsIn w b #[.int .i64 KK, .slice a1 EN.length c1, .slice a2 P.length c2] (.slice a1 EN.length c1) (.slice a2 P.length c2) EN P wb) := IA.out.1.below hbb; obtain ⟨y0, y1, y2⟩ := HC.out _ IB.out; clear hbb))
        refine wpAny_take (i := 6) (v := .bool false) rfl (by kernel_rfl) (by kernel_rfl) (by kernel_rfl) (fun _ _ _ h => h) (Or.inl ⟨by kernel_rfl, fun w => by go_simp⟩) ?_
        refine wpAny_take (i := 7) (v := .bool false) rfl (by kernel_rfl) (by kernel_rfl) (by kernel_rfl) (fun _ _ _ h => h) (Or.inl ⟨by kernel_rfl, fun w => by go_simp⟩) ?_
        refine wpAny_take (i := 8) (v := .string R) rfl (by kernel_rfl) (by kernel_rfl) (by kernel_rfl) (fun _ _ _ h => h) (Or.inl ⟨by kernel_rfl, fun w => by go_simp⟩) ?_
        refine wpAny_take (i := 9) (v := .string s) rfl (by kernel_rfl) (by kernel_rfl) (by kernel_rfl) (fun _ _ _ h => h) (Or.inl ⟨by kernel_rfl, fun w => by go_simp⟩) ?_
        refine wpAny_ready (rs := [10]) (by kernel_rfl) (by simp) ?_
        refine AllReady.cons rfl (fun K' hK' => ?_) AllReady.nil
        go_simp
        go_wp2_with ((go_at_call 27; (with_reducible refine (ER.out _).mono ?_); rintro e wc ⟨rfl, hbc⟩; have IC : Hid (FsIn w b #[.int .i64 KK, .slice a1 EN.length c1, .slice a2 P.length c2] (.slice a1 EN.length c1) (.slice a2 P.length c2) EN P wc) := IB.out.below hbc; obtain ⟨z0, z1, z2⟩ := HC.out _ IC.out; clear hbc))
        refine wpAny_take (i := 11) (v := .bool false) rfl (by kernel_rfl) (by kernel_rfl) (by kernel_rfl) (fun _ _ _ h => h) (Or.inl ⟨by kernel_rfl, fun w => by go_simp⟩) ?_
        refine wpAny_take (i := 12) (v := .bool false) rfl (by kernel_rfl) (by kernel_rfl) (by kernel_rfl) (fun _ _ _ h => h) (Or.inl ⟨by kernel_rfl, fun w => by go_simp⟩) ?_
        refine wpAny_take (i := 13) (v := .bool false) rfl (by kernel_rfl) (by kernel_rfl) (by kernel_rfl) (fun _ _ _ h => h) (Or.inl ⟨by kernel_rfl, fun w => by go_simp⟩) ?_
        refine wpAny_take (i := 16) (v := .string R) rfl (by kernel_rfl) (by kernel_rfl) (by kernel_rfl) (fun _ _ _ h => h) (Or.inl ⟨by kernel_rfl, fun w => by go_simp⟩) ?_
        refine wpAny_take (i := 17) (v := .bool false) rfl (by kernel_rfl) (by kernel_rfl) (by kernel_rfl) (fun _ _ _ h => h) (Or.inl ⟨by kernel_rfl, fun w => by go_simp⟩) ?_
        refine wpAny_ready (rs := [14]) (by kernel_rfl) (by simp) ?_
        refine AllReady.cons rfl (fun K' hK' => ?_) AllReady.nil
        go_simp
        refine hK' _ _ ?_
        clear hK' K'
        refine wpAny_ready (rs := [15]) (by kernel_rfl) (by simp) ?_
        refine AllReady.cons rfl (fun K' hK' => ?_) AllReady.nil
        go_simp
        go_wp2_with ((go_at_call 28; (with_reducible refine (EG.out _ ?_).mono ?_); exact IC.out; rintro e wd ⟨rfl, hbd⟩; have ID : Hid (FsIn w b #[.int .i64 KK, .slice a1 EN.length c1, .slice a2 P.length c2] (.slice a1 EN.length c1) (.slice a2 P.length c2) EN P wd) := IC.out.below hbd; obtain ⟨u0, u1, u2⟩ := HC.out _ ID.out; clear hbd))
        refine wpAny_take (i := 18) (v := .bool false) rfl (by kernel_rfl) (by kernel_rfl) (by kernel_rfl) (fun _ _ _ h => h) (Or.inl ⟨by kernel_rfl, fun w => by go_simp⟩) ?_
        refine wpAny_take (i := 19) (v := undef) rfl (by kernel_rfl) (by kernel_rfl) (by kernel_rfl) (fun _ _ _ h => h) (Or.inr ⟨by kernel_rfl, rfl⟩) ?_
        refine wpAny_take (i := 20) (v := undef) rfl (by kernel_rfl) (by kernel_rfl) (by kernel_rfl) (fun _ _ _ h => h) (Or.inr ⟨by kernel_rfl, rfl⟩) ?_
        refine wpAny_take (i := 21) (v := .bool false) rfl (by kernel_rfl) (by kernel_rfl) (by kernel_rfl) (fun _ _ _ h => h) (Or.inl ⟨by kernel_rfl, fun w => by go_simp⟩) ?_
        refine wpAny_take (i := 22) (v := .bool false) rfl (by kernel_rfl) (by kernel_rfl) (by kernel_rfl) (fun _ _ _ h => h) (Or.inl ⟨by kernel_rfl, fun w => by go_simp⟩) ?_
        refine wpAny_take (i := 23) (v := undef) rfl (by kernel_rfl) (by kernel_rfl) (by kernel_rfl) (fun _ _ _ h => h) (Or.inr ⟨by kernel_rfl, rfl⟩) ?_
        refine wpAny_take (i := 24) (v := undef) rfl (by kernel_rfl) (by kernel_rfl) (by kernel_rfl) (fun _ _ _ h => h) (Or.inr ⟨by kernel_rfl, rfl⟩) ?_
        refine wpAny_take (i := 25) (v := .bool false) rfl (by kernel_rfl) (by kernel_rfl) (by kernel_rfl) (fun _ _ _ h => h) (Or.inl ⟨by kernel_rfl, fun w => by go_simp⟩) ?_
        refine wpAny_take (i := 26) (v := .bool false) rfl (by kernel_rfl) (by kernel_rfl) (by kernel_rfl) (fun _ _ _ h => h) (Or.inl ⟨by kernel_rfl, fun w => by go_simp⟩) ?_
        refine wpAny_take (i := 27) (v := .bool false) rfl (by kernel_rfl) (by kernel_rfl) (by kernel_rfl) (fun _ _ _ h => h) (Or.inl ⟨by kernel_rfl, fun w => by go_simp⟩) ?_
        refine wpAny_done (by kernel_rfl) ?_ _
        go_simp
        refine hK _ _ (Met.intro (hJ _ _ ?_))
        (repeat apply Exists.intro)
        refine ⟨?rel, rfl⟩
        case rel => exact ⟨rfl, ID.out⟩
      · go_simp
        go_wp2_with ((go_at_call 26; (with_reducible refine (ES.out _ ?_).mono ?_); (first | exact I3.out | exact I3d.out); rintro e wa ⟨ue, up, rfl, hu1, hu2, hia⟩; have IA : Hid (FsIn w b #[.int .i64 KK, .slice a1 EN.length c1, .slice a2 P.length c2] (.slice a1 EN.length c1) (.slice a2 P.length c2) EN P wa ∧ Texts wa wa.heap.size ue EN ∧ Texts wa wa.heap.size up P) := ⟨hia, hu1, hu2⟩; obtain ⟨x0, x1, x2⟩ := HC.out _ hia; clear hia hu1 hu2))
        refine wpAny_ready (rs := [0]) (by kernel_rfl) (by simp) ?_
        refine AllReady.cons rfl (fun K' hK' => ?_) AllReady.nil
        go_simp
        refine hK' _ _ ?_
        clear hK' K'
        refine wpAny_ready (rs := [5]) (by kernel_rfl) (by simp) ?_
        refine AllReady.cons rfl (fun K' hK' => ?_) AllReady.nil
        go_simp
        go_wp2_with ((go_at_call 25; (with_reducible refine (EL.out _ _ _ _ _ ?_ ?_ ?_ ?_).mono ?_); exact IA.out.1.2.2.1; exact IA.out.1.2.2.2.1; exact IA.out.2.1; exact IA.out.2.2; rintro e wb ⟨rfl, hbb⟩; have IB : Hid (FsIn w b #[.int .i64 KK, .slice a1 EN.length c1, .slice a2 P.length c2] (.slice a1 EN.length c1) (.slice a2 P.length c2) EN P wb) := IA.out.1.below hbb; obtain ⟨y0, y1, y2⟩ := HC.out _ IB.out; clear hbb))
        refine wpAny_take (i := 6) (v := .bool false) rfl (by kernel_rfl) (by kernel_rfl) (by kernel_rfl) (fun _ _ _ h => h) (Or.inl ⟨by kernel_rfl, fun w => by go_simp⟩) ?_
        refine wpAny_take (i := 7) (v := .bool false) rfl (by kernel_rfl) (by kernel_rfl) (by kernel_rfl) (fun _ _ _ h => h) (Or.inl ⟨by kernel_rfl, fun w => by go_simp⟩) ?_
        refine wpAny_take (i := 8) (v := .string R) rfl (by kernel_rfl) (by kernel_rfl) (by kernel_rfl) (fun _ _ _ h => h) (Or.inl ⟨by kernel_rfl, fun w => by go_simp⟩) ?_
        refine wpAny_take (i := 9) (v := .string s) rfl (by kernel_rfl) (by kernel_rfl) (by kernel_rfl) (fun _ _ _ h => h) (Or.inl ⟨by kernel_rfl, fun w => by go_simp⟩) ?_
        refine wpAny_ready (rs := [10]) (by kernel_rfl) (by simp) ?_
        refine AllReady.cons rfl (fun K' hK' => ?_) AllReady.nil
        go_simp
        go_wp2_with ((go_at_call 27; (with_reducible refine (ER.out _).mono ?_); rintro e wc ⟨rfl, hbc⟩; have IC : Hid (FsIn w b #[.int .i64 KK, .slice a1 EN.length c1, .slice a2 P.length c2] (.slice a1 EN.length c1) (.slice a2 P.length c2) EN P wc) := IB.out.below hbc; obtain ⟨z0, z1, z2⟩ := HC.out _ IC.out; clear hbc))
        refine wpAny_take (i := 11) (v := .bool false) rfl (by kernel_rfl) (by kernel_rfl) (by kernel_rfl) (fun _ _ _ h => h) (Or.inl ⟨by kernel_rfl, fun w => by go_simp⟩) ?_
        refine wpAny_take (i := 12) (v := .bool false) rfl (by kernel_rfl) (by kernel_rfl) (by kernel_rfl) (fun _ _ _ h => h) (Or.inl ⟨by kernel_rfl, fun w => by go_simp⟩) ?_
        refine wpAny_take (i := 13) (v := .bool false) rfl (by kernel_rfl) (by kernel_rfl) (by kernel_rfl) (fun _ _ _ h => h) (Or.inl ⟨by kernel_rfl, fun w => by go_simp⟩) ?_
        refine wpAny_take (i := 16) (v := .string R) rfl (by kernel_rfl) (by kernel_rfl) (by kernel_rfl) (fun _ _ _ h => h) (Or.inl ⟨by kernel_rfl, fun w => by go_simp⟩) ?_
        refine wpAny_take (i := 17) (v := .bool false) rfl (by kernel_rfl) (by kernel_rfl) (by kernel_rfl) (fun _ _ _ h => h) (Or.inl ⟨by kernel_rfl, fun w => by go_simp⟩) ?_
        refine wpAny_ready (rs := [14]) (by kernel_rfl) (by simp) ?_
        refine AllReady.cons rfl (fun K' hK' => ?_) AllReady.nil
        go_simp
        refine hK' _ _ ?_
        clear hK' K'
        refine wpAny_ready (rs := [15]) (by kernel_rfl) (by simp) ?_
        refine AllReady.cons rfl (fun K' hK' => ?_) AllReady.nil
        go_simp
        go_wp2_with ((go_at_call 28; (with_reducible refine (EG.out _ ?_).mono ?_); exact IC.out; rintro e wd ⟨rfl, hbd⟩; have ID : Hid (FsIn w b #[.int .i64 KK, .slice a1 EN.length c1, .slice a2 P.length c2] (.slice a1 EN.length c1) (.slice a2 P.length c2) EN P wd) := IC.out.below hbd; obtain ⟨u0, u1, u2⟩ := HC.out _ ID.out; clear hbd))
        refine wpAny_take (i := 18) (v := .bool false) rfl (by kernel_rfl) (by kernel_rfl) (by kernel_rfl) (fun _ _ _ h => h) (Or.inl ⟨by kernel_rfl, fun w => by go_simp⟩) ?_
        refine wpAny_take (i := 19) (v := undef) rfl (by kernel_rfl) (by kernel_rfl) (by kernel_rfl) (fun _ _ _ h => h) (Or.inr ⟨by kernel_rfl, rfl⟩) ?_
        refine wpAny_take (i := 20) (v := undef) rfl (by kernel_rfl) (by kernel_rfl) (by kernel_rfl) (fun _ _ _ h => h) (Or.inr ⟨by kernel_rfl, rfl⟩) ?_
        refine wpAny_take (i := 21) (v := .bool false) rfl (by kernel_rfl) (by kernel_rfl) (by kernel_rfl) (fun _ _ _ h => h) (Or.inl ⟨by kernel_rfl, fun w => by go_simp⟩) ?_
        refine wpAny_take (i := 22) (v := .bool false) rfl (by kernel_rfl) (by kernel_rfl) (by kernel_rfl) (fun _ _ _ h => h) (Or.inl ⟨by kernel_rfl, fun w => by go_simp⟩) ?_
        refine wpAny_take (i := 23) (v := undef) rfl (by kernel_rfl) (by kernel_rfl) (by kernel_rfl) (fun _ _ _ h => h) (Or.inr ⟨by kernel_rfl, rfl⟩) ?_
        refine wpAny_take (i := 24) (v := undef) rfl (by kernel_rfl) (by kernel_rfl) (by kernel_rfl) (fun _ _ _ h => h) (Or.inr ⟨by kernel_rfl, rfl⟩) ?_
        refine wpAny_take (i := 25) (v := .bool false) rfl (by kernel_rfl) (by kernel_rfl) (by kernel_rfl) (fun _ _ _ h => h) (Or.inl ⟨by kernel_rfl, fun w => by go_simp⟩) ?_
        refine wpAny_take (i := 26) (v := .bool false) rfl (by kernel_rfl) (by kernel_rfl) (by kernel_rfl) (fun _ _ _ h => h) (Or.inl ⟨by kernel_rfl, fun w => by go_simp⟩) ?_
        refine wpAny_take (i := 27) (v := .bool false) rfl (by kernel_rfl) (by kernel_rfl) (by kernel_rfl) (fun _ _ _ h => h) (Or.inl ⟨by kernel_rfl, fun w => by go_simp⟩) ?_
        refine wpAny_done (by kernel_rfl) ?_ _
        go_simp
        refine hK _ _ (Met.intro (hJ _ _ ?_))
        (repeat apply Exists.intro)
        refine ⟨?rel, rfl⟩
        case rel => exact ⟨rfl, ID.out⟩
  case rest =>
    obtain ⟨rfl, hI6⟩ := hcut
    have I6 : Hid (FsIn w b #[.int .i64 KK, .slice a1 EN.length c1, .slice a2 P.length c2] (.slice a1 EN.length c1) (.slice a2 P.length c2) EN P wc) := hI6
    clear hI6 I3 I3d ES ER EL hkr1 hkr0 x0 x1 x2
    obtain ⟨x0, x1, x2⟩ := HC.out _ I6.out
    go_wp2_with fail
    refine (EG.out _ I6.out).mono ?_
    rintro e w7 ⟨rfl, hb7⟩
    have I7 : Hid (FsIn w b #[.int .i64 KK, .slice a1 EN.length c1, .slice a2 P.length c2] (.slice a1 EN.length c1) (.slice a2 P.length c2) EN P w7) := I6.out.below hb7
    clear hb7 I6 x0 x1 x2
    obtain ⟨x0, x1, x2⟩ := HC.out _ I7.out
    cases V with
    | true =>
      go_wp2_with fail
      refine (EY.out _ I7.out (by simp)).mono ?_
      rintro e w8 ⟨rfl, hb8⟩
      have H8 : Hid (Below w.heap.size w w8 ∧ Keys w8) := ⟨(I7.out.below hb8).1, (I7.out.below hb8).2.2.2.2⟩
      clear hb8 I7 x0 x1 x2 EG EY HC
      go_wp2_with fail
      refine (EV.out _ H8.out.1).mono ?_
      rintro e w9 ⟨gr, gu, gk, ge, gq, gl, gp, rfl, hgr, hgu, ht3, ht4, hl3, hl4, hb9⟩
      obtain ⟨a3, c3, rfl, _⟩ := id ht3
      obtain ⟨a4, c4, rfl, _⟩ := id ht4
      obtain ⟨W9, hW9⟩ : ∃ W, W = w9.alloc (.cells #[.int .i64 gk, .slice a3 gl.length c3, .slice a4 gp.length c4] 46) := ⟨_, rfl⟩
      have hal : Below w9.heap.size w9 W9 := by rw [hW9]; exact (Below.refl _ _).alloc (Nat.le_refl _) _
      have hb89 : Below w8.heap.size w8 W9 := hb9.trans (hal.mono hb9.size)
      have I9 : Hid (FsIn w w9.heap.size #[.int .i64 gk, .slice a3 gl.length c3, .slice a4 gp.length c4] (.slice a3 gl.length c3) (.slice a4 gp.length c4) gl gp W9) := ⟨H8.out.1.trans (hb89.mono H8.out.1.size), by rw [hW9]; exact heap_alloc_new w9 _, (ht3.below hal).up hal.size, (ht4.below hal).up hal.size, H8.out.2.below hb89 H8.out.2.lt⟩
      have HW9 : Hid (W9 = w9.alloc (.cells #[.int .i64 gk, .slice a3 gl.length c3, .slice a4 gp.length c4] 46)) := hW9
      clear ht3 ht4 hb9 hal hb89 hW9 H8 EV
      have F1 : Hid (∀ x W, FsIn w x #[.int .i64 gk, .slice a3 gl.length c3, .slice a4 gp.length c4] (.slice a3 gl.length c3) (.slice a4 gp.length c4) gl gp W → Calls Tryd.prog 29 #[.string gr, .string gu, .agg #[.int .i64 gk, .slice a3 gl.length c3, .slice a4 gp.length c4]] W fun e w' => e = .returned (.bool (verB gr gu gk gl gp)) ∧ FsIn w x #[.int .i64 gk, .slice a3 gl.length c3, .slice a4 gp.length c4] (.slice a3 gl.length c3) (.slice a4 gp.length c4) gl gp w') := fun x W hI => (implVerify_any gr gu gk _ _ gl gp W hI.2.2.1 hI.2.2.2.1 (by omega) (by omega) (by omega) (by omega) hI.2.2.2.2).mono fun e w' h => ⟨h.1, hI.below h.2⟩
      have F2 : Hid (∀ x W, FsIn w x #[.int .i64 gk, .slice a3 gl.length c3, .slice a4 gp.length c4] (.slice a3 gl.length c3) (.slice a4 gp.length c4) gl gp W → Calls Tryd.prog 31 #[.string gr, .string gu, .agg #[.int .i64 gk, .slice a3 gl.length c3, .slice a4 gp.length c4]] W fun e w' => e = .returned (.bool (verB gr gu gk gl gp)) ∧ FsIn w x #[.int .i64 gk, .slice a3 gl.length c3, .slice a4 gp.length c4] (.slice a3 gl.length c3) (.slice a4 gp.length c4) gl gp w') := fun x W hI => (specVerify_any gr gu gk _ _ gl gp W hI.2.2.1 hI.2.2.2.1 (by omega) (by omega) (by omega) (by omega)).mono fun e w' h => ⟨h.1, hI.below h.2⟩
      have F3 : Hid (∀ x W, FsIn w x #[.int .i64 gk, .slice a3 gl.length c3, .slice a4 gp.length c4] (.slice a3 gl.length c3) (.slice a4 gp.length c4) gl gp W → Calls Tryd.prog 28 #[.agg #[.int .i64 gk, .slice a3 gl.length c3, .slice a4 gp.length c4]] W fun e w' => e = .returned (.bool (sigRB gk gl gp)) ∧ FsIn w x #[.int .i64 gk, .slice a3 gl.length c3, .slice a4 gp.length c4] (.slice a3 gl.length c3) (.slice a4 gp.length c4) gl gp w') := fun x W hI => (implSigRight_any gk _ _ gl gp W hI.2.2.1 hI.2.2.2.1 (by omega) (by omega)).mono fun e w' h => ⟨h.1, hI.below h.2⟩
      have F4 : Hid (∀ x W, FsIn w x #[.int .i64 gk, .slice a3 gl.length c3, .slice a4 gp.length c4] (.slice a3 gl.length c3) (.slice a4 gp.length c4) gl gp W → Calls Tryd.prog 32 #[.agg #[.int .i64 gk, .slice a3 gl.length c3, .slice a4 gp.length c4]] W fun e w' => e = .returned (.bool (sigRB gk gl gp)) ∧ FsIn w x #[.int .i64 gk, .slice a3 gl.length c3, .slice a4 gp.length c4] (.slice a3 gl.length c3) (.slice a4 gp.length c4) gl gp w') := fun x W hI => (specSigRight_any gk _ _ gl gp W hI.2.2.1 hI.2.2.2.1 (by omega) (by omega)).mono fun e w' h => ⟨h.1, hI.below h.2⟩
      generalize verB gr gu gk gl gp = V1 at *
      generalize sigRB gk gl gp = V2 at *
      have hV1 : (V1 == V1) = true := by simp
      have hV2 : (V2 == V2) = true := by simp
      go_wp2_with fail
      rw [← HW9.out]
      clear HW9 hgr hgu hl3 hl4
      generalize hx : w9.heap.size = x at *
      clear hx
      have I9d : Hid (FsIn w x #[.int .i64 gk, .slice a3 gl.length c3, .slice a4 gp.length c4] (.slice a3 gl.length c3) (.slice a4 gp.length c4) gl gp W9.drew) := I9.out.below (below_drew' (Below.refl _ _))
      have HD : Hid (∀ X, FsIn w x #[.int .i64 gk, .slice a3 gl.length c3, .slice a4 gp.length c4] (.slice a3 gl.length c3) (.slice a4 gp.length c4) gl gp X → X.cell? ⟨x, 0, none⟩ = some (.int .i64 gk) ∧ X.cell? ⟨x, 1, none⟩ = some (.slice a3 gl.length c3) ∧ X.cell? ⟨x, 2, none⟩ = some (.slice a4 gp.length c4)) := fun X h => (three_cells (Below.refl X.heap.size X) h.lt h.2.1).1
      obtain ⟨y0, y1, y2⟩ := HD.out _ I9.out
      go_region_held3 (fun X => X.cell? ⟨x, 0, none⟩ = some (.int .i64 gk) ∧ X.cell? ⟨x, 1, none⟩ = some (.slice a3 gl.length c3) ∧ X.cell? ⟨x, 2, none⟩ = some (.slice a4 gp.length c4)) (go_keep)
        (first
          | (go_at_call 29; (with_reducible refine (F1.out x _ ?_).mono ?_); (first | exact I9.out | exact I9d.out); rintro e wa ⟨rfl, hia⟩; have JA : Hid (FsIn w x #[.int .i64 gk, .slice a3 gl.length c3, .slice a4 gp.length c4] (.slice a3 gl.length c3) (.slice a4 gp.length c4) gl gp wa) := hia; obtain ⟨p0, p1, p2⟩ := HD.out _ hia; clear hia)
          | (go_at_call 31; (with_reducible refine (F2.out x _ ?_).mono ?_); exact JA.out; rintro e wb ⟨rfl, hia⟩; have JB : Hid (FsIn w x #[.int .i64 gk, .slice a3 gl.length c3, .slice a4 gp.length c4] (.slice a3 gl.length c3) (.slice a4 gp.length c4) gl gp wb) := hia; obtain ⟨q0, q1, q2⟩ := HD.out _ hia; clear hia)
          | (go_at_call 28; (with_reducible refine (F3.out x _ ?_).mono ?_); exact JB.out; rintro e wd ⟨rfl, hia⟩; have JC : Hid (FsIn w x #[.int .i64 gk, .slice a3 gl.length c3, .slice a4 gp.length c4] (.slice a3 gl.length c3) (.slice a4 gp.length c4) gl gp wd) := hia; obtain ⟨r0, r1, r2⟩ := HD.out _ hia; clear hia)
          | (go_at_call 32; (with_reducible refine (F4.out x _ ?_).mono ?_); exact JC.out; rintro e we ⟨rfl, hia⟩; have JD : Hid (FsIn w x #[.int .i64 gk, .slice a3 gl.length c3, .slice a4 gp.length c4] (.slice a3 gl.length c3) (.slice a4 gp.length c4) gl gp we) := hia; obtain ⟨s0, s1, s2⟩ := HD.out _ hia; clear hia))
      all_goals
        go_wp2
        go_ret
        exact ⟨by simp, JD.out.1⟩
    | false =>
      have H8 : Hid (Below w.heap.size w w7 ∧ Keys w7) := ⟨I7.out.1, I7.out.2.2.2.2⟩
      clear I7 x0 x1 x2 EG EY HC
      go_wp2_with fail
      refine (EV.out _ H8.out.1).mono ?_
      rintro e w9 ⟨gr, gu, gk, ge, gq, gl, gp, rfl, hgr, hgu, ht3, ht4, hl3, hl4, hb9⟩
      obtain ⟨a3, c3, rfl, _⟩ := id ht3
      obtain ⟨a4, c4, rfl, _⟩ := id ht4
      obtain ⟨W9, hW9⟩ : ∃ W, W = w9.alloc (.cells #[.int .i64 gk, .slice a3 gl.length c3, .slice a4 gp.length c4] 46) := ⟨_, rfl⟩
      have hal : Below w9.heap.size w9 W9 := by rw [hW9]; exact (Below.refl _ _).alloc (Nat.le_refl _) _
      have hb89 : Below w7.heap.size w7 W9 := hb9.trans (hal.mono hb9.size)
      have I9 : Hid (FsIn w w9.heap.size #[.int .i64 gk, .slice a3 gl.length c3, .slice a4 gp.length c4] (.slice a3 gl.length c3) (.slice a4 gp.length c4) gl gp W9) := ⟨H8.out.1.trans (hb89.mono H8.out.1.size), by rw [hW9]; exact heap_alloc_new w9 _, (ht3.below hal).up hal.size, (ht4.below hal).up hal.size, H8.out.2.below hb89 H8.out.2.lt⟩
      have HW9 : Hid (W9 = w9.alloc (.cells #[.int .i64 gk, .slice a3 gl.length c3, .slice a4 gp.length c4] 46)) := hW9
      clear ht3 ht4 hb9 hal hb89 hW9 H8 EV
      have F1 : Hid (∀ x W, FsIn w x #[.int .i64 gk, .slice a3 gl.length c3, .slice a4 gp.length c4] (.slice a3 gl.length c3) (.slice a4 gp.length c4) gl gp W → Calls Tryd.prog 29 #[.string gr, .string gu, .agg #[.int .i64 gk, .slice a3 gl.length c3, .slice a4 gp.length c4]] W fun e w' => e = .returned (.bool (verB gr gu gk gl gp)) ∧ FsIn w x #[.int .i64 gk, .slice a3 gl.length c3, .slice a4 gp.length c4] (.slice a3 gl.length c3) (.slice a4 gp.length c4) gl gp w') := fun x W hI => (implVerify_any gr gu gk _ _ gl gp W hI.2.2.1 hI.2.2.2.1 (by omega) (by omega) (by omega) (by omega) hI.2.2.2.2).mono fun e w' h => ⟨h.1, hI.below h.2⟩
      have F2 : Hid (∀ x W, FsIn w x #[.int .i64 gk, .slice a3 gl.length c3, .slice a4 gp.length c4] (.slice a3 gl.length c3) (.slice a4 gp.length c4) gl gp W → Calls Tryd.prog 31 #[.string gr, .string gu, .agg #[.int .i64 gk, .slice a3 gl.length c3, .slice a4 gp.length c4]] W fun e w' => e = .returned (.bool (verB gr gu gk gl gp)) ∧ FsIn w x #[.int .i64 gk, .slice a3 gl.length c3, .slice a4 gp.length c4] (.slice a3 gl.length c3) (.slice a4 gp.length c4) gl gp w') := fun x W hI => (specVerify_any gr gu gk _ _ gl gp W hI.2.2.1 hI.2.2.2.1 (by omega) (by omega) (by omega) (by omega)).mono fun e w' h => ⟨h.1, hI.below h.2⟩
      have F3 : Hid (∀ x W, FsIn w x #[.int .i64 gk, .slice a3 gl.length c3, .slice a4 gp.length c4] (.slice a3 gl.length c3) (.slice a4 gp.length c4) gl gp W → Calls Tryd.prog 28 #[.agg #[.int .i64 gk, .slice a3 gl.length c3, .slice a4 gp.length c4]] W fun e w' => e = .returned (.bool (sigRB gk gl gp)) ∧ FsIn w x #[.int .i64 gk, .slice a3 gl.length c3, .slice a4 gp.length c4] (.slice a3 gl.length c3) (.slice a4 gp.length c4) gl gp w') := fun x W hI => (implSigRight_any gk _ _ gl gp W hI.2.2.1 hI.2.2.2.1 (by omega) (by omega)).mono fun e w' h => ⟨h.1, hI.below h.2⟩
      have F4 : Hid (∀ x W, FsIn w x #[.int .i64 gk, .slice a3 gl.length c3, .slice a4 gp.length c4] (.slice a3 gl.length c3) (.slice a4 gp.length c4) gl gp W → Calls Tryd.prog 32 #[.agg #[.int .i64 gk, .slice a3 gl.length c3, .slice a4 gp.length c4]] W fun e w' => e = .returned (.bool (sigRB gk gl gp)) ∧ FsIn w x #[.int .i64 gk, .slice a3 gl.length c3, .slice a4 gp.length c4] (.slice a3 gl.length c3) (.slice a4 gp.length c4) gl gp w') := fun x W hI => (specSigRight_any gk _ _ gl gp W hI.2.2.1 hI.2.2.2.1 (by omega) (by omega)).mono fun e w' h => ⟨h.1, hI.below h.2⟩
      generalize verB gr gu gk gl gp = V1 at *
      generalize sigRB gk gl gp = V2 at *
      have hV1 : (V1 == V1) = true := by simp
      have hV2 : (V2 == V2) = true := by simp
      go_wp2_with fail
      rw [← HW9.out]
      clear HW9 hgr hgu hl3 hl4
      generalize hx : w9.heap.size = x at *
      clear hx
      have I9d : Hid (FsIn w x #[.int .i64 gk, .slice a3 gl.length c3, .slice a4 gp.length c4] (.slice a3 gl.length c3) (.slice a4 gp.length c4) gl gp W9.drew) := I9.out.below (below_drew' (Below.refl _ _))
      have HD : Hid (∀ X, FsIn w x #[.int .i64 gk, .slice a3 gl.length c3, .slice a4 gp.length c4] (.slice a3 gl.length c3) (.slice a4 gp.length c4) gl gp X → X.cell? ⟨x, 0, none⟩ = some (.int .i64 gk) ∧ X.cell? ⟨x, 1, none⟩ = some (.slice a3 gl.length c3) ∧ X.cell? ⟨x, 2, none⟩ = some (.slice a4 gp.length c4)) := fun X h => (three_cells (Below.refl X.heap.size X) h.lt h.2.1).1
      obtain ⟨y0, y1, y2⟩ := HD.out _ I9.out
      go_region_held3 (fun X => X.cell? ⟨x, 0, none⟩ = some (.int .i64 gk) ∧ X.cell? ⟨x, 1, none⟩ = some (.slice a3 gl.length c3) ∧ X.cell? ⟨x, 2, none⟩ = some (.slice a4 gp.length c4)) (go_keep)
        (first
          | (go_at_call 29; (with_reducible refine (F1.out x _ ?_).mono ?_); (first | exact I9.out | exact I9d.out); rintro e wa ⟨rfl, hia⟩; have JA : Hid (FsIn w x #[.int .i64 gk, .slice a3 gl.length c3, .slice a4 gp.length c4] (.slice a3 gl.length c3) (.slice a4 gp.length c4) gl gp wa) := hia; obtain ⟨p0, p1, p2⟩ := HD.out _ hia; clear hia)
          | (go_at_call 31; (with_reducible refine (F2.out x _ ?_).mono ?_); exact JA.out; rintro e wb ⟨rfl, hia⟩; have JB : Hid (FsIn w x #[.int .i64 gk, .slice a3 gl.length c3, .slice a4 gp.length c4] (.slice a3 gl.length c3) (.slice a4 gp.length c4) gl gp wb) := hia; obtain ⟨q0, q1, q2⟩ := HD.out _ hia; clear hia)
          | (go_at_call 28; (with_reducible refine (F3.out x _ ?_).mono ?_); exact JB.out; rintro e wd ⟨rfl, hia⟩; have JC : Hid (FsIn w x #[.int .i64 gk, .slice a3 gl.length c3, .slice a4 gp.length c4] (.slice a3 gl.length c3) (.slice a4 gp.length c4) gl gp wd) := hia; obtain ⟨r0, r1, r2⟩ := HD.out _ hia; clear hia)
          | (go_at_call 32; (with_reducible refine (F4.out x _ ?_).mono ?_); exact JC.out; rintro e we ⟨rfl, hia⟩; have JD : Hid (FsIn w x #[.int .i64 gk, .slice a3 gl.length c3, .slice a4 gp.length c4] (.slice a3 gl.length c3) (.slice a4 gp.length c4) gl gp we) := hia; obtain ⟨s0, s1, s2⟩ := HD.out _ hia; clear hia))
      all_goals
        go_wp2
        go_ret
        exact ⟨by simp, JD.out.1⟩
end Go.Proofs.YtollfcjbcfnfdaaDoor
