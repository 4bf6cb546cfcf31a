/-
  Is a head of this log, and good under this key? The program's test.
-/
import Derived.Test.YtpglcbidfghfkabGreatDoorPkImplHeadG
import Derived.Test.YtpglcbidfghfkabGreatDoorPkHdV
namespace Go.Proofs.YtpglcbidfghfkabGreatDoor
open Go.RowKit Go.Lib
set_option linter.unusedVariables false
set_option linter.unusedSimpArgs false

/-- A head of the log lg that is good under the key ky. -/
def sgB (lg ky : ByteArray) (x : Hd) : Bool := (x.log.toList == lg.toList) && headGB ky x.log x.size x.root x.time x.k x.el x.pl
set_option maxHeartbeats 4000000 in
set_option maxRecDepth 10000 in
theorem signed_any (lg ky : ByteArray) (x : Hd) (ve vp : Value) (w : World) (hx : x.In ve vp w w.heap.size) (hl : x.Lim) (hn : x.Num) (hk : ky.size ≤ 1048576) (hK : Keys w) :
    Calls Tryz.prog 76 #[.agg #[.string lg, .string ky], .agg #[.string x.log, .int .i64 x.size, .string x.root, .int .i64 x.time, .int .i64 x.k, ve, vp]] w fun e w' => e = .returned (.bool (sgB lg ky x)) ∧ Below w.heap.size w w' := by
  obtain ⟨a, c, b, d, rfl, rfl⟩ := hx.parts
  obtain ⟨W, hW⟩ : ∃ W, W = (w.alloc (.cells #[.string lg, .string ky] 88)).alloc (.cells #[.string x.log, .int .i64 x.size, .string x.root, .int .i64 x.time, .int .i64 x.k, .slice a x.el.length c, .slice b x.pl.length d] 36) := ⟨_, rfl⟩
  have hbW : Below w.heap.size w W := by rw [hW]; exact ((Below.refl _ _).alloc (Nat.le_refl _) _).alloc (by simp) _
  have E0 : Hid (Calls Tryz.prog 101 #[.string ky, .agg #[.string x.log, .int .i64 x.size, .string x.root, .int .i64 x.time, .int .i64 x.k, .slice a x.el.length c, .slice b x.pl.length d]] W fun e w' => e = .returned (.bool (headGB ky x.log x.size x.root x.time x.k x.el x.pl)) ∧ Below W.heap.size W w') := implHeadGood_any ky x.log x.root x.size x.time x.k _ _ x.el x.pl W (hx.on hbW).1 (hx.on hbW).2 hl.2.2.1 hl.2.2.2 hl.1 hl.2.1 hk hn.1 hn.2 (hK.below hbW hK.lt)
  have H0 : Hid (Below w.heap.size w W) := hbW
  have HW : Hid (W = (w.alloc (.cells #[.string lg, .string ky] 88)).alloc (.cells #[.string x.log, .int .i64 x.size, .string x.root, .int .i64 x.time, .int .i64 x.k, .slice a x.el.length c, .slice b x.pl.length d] 36)) := hW
  clear hx hl hn hk hK hW hbW
  unfold sgB
  generalize headGB ky x.log x.size x.root x.time x.k x.el x.pl = G at *
  cases hq : (x.log.toList == lg.toList) with
  | false =>
    clear E0
    go_enter Tryz.func76, Tryz.ntmps76
    go_wp2
    rw [← HW.out]
    go_ret
    exact ⟨rfl, H0.out⟩
  | true =>
    go_enter Tryz.func76, Tryz.ntmps76
    go_wp2_with fail
    rw [← HW.out]
    refine E0.out.mono ?_
    rintro e w1 ⟨rfl, hb⟩
    have H1 : Hid (Below w.heap.size w w1) := H0.out.trans (hb.mono H0.out.size)
    clear hb E0 H0 HW
    go_wp2
    go_ret
    exact ⟨rfl, H1.out⟩
end Go.Proofs.YtpglcbidfghfkabGreatDoor
