/-
  The landed TextAt.
-/
import Derived.Test.YtiehfobcbhgfkaaDoorRwX
import Derived.Test.YtiehfobcbhgfkaaDoorIkX
import Derived.Test.YtiehfobcbhgfkaaDoorNmX
import Derived.Test.YtiehfobcbhgfkaaDoorLater
import Derived.BigQuiet
import Derived.Test.YtiehfobcbhgfkaaDoorHold
namespace Go.Proofs.YtiehfobcbhgfkaaDoor.row
set_option maxRecDepth 20000
open Go.RowKit
open kit sum num burst hd fr recs sc disk kd nam

/-- the library's variables that names are written with -/
structure GT (w : World) : Prop where
  t64 : Tab64 w
theorem GT.below {w w' : World} (h : GT w) (hb : Below w.heap.size w w') : GT w' := ⟨tab64_below h.t64 hb⟩
theorem gt_of {w : World} (h : hold.F_math_bits_deBruijn64tab w) : GT w := ⟨h⟩

set_option maxHeartbeats 1000000 in
theorem implTextAny (v : Value) (d : D) (base : Int) (w : World) (hk : okD d) (hv : IsDisk w v d) (hg : GT w) :
    Calls Tryd.prog 7 #[v, .int .i64 base] w fun e w' => e = .returned (.string (tAt d base)) ∧ Below w.heap.size w w' := by
  obtain ⟨aN, aE, aO, aS, nN, cN, nE, cE, nO, cO, nS, cS, rfl, h1, h2, h3, h4⟩ := hv
  have bw := (Below.refl w.heap.size w).alloc (Nat.le_refl _) (.cells #[.slice aN nN cN, .slice aE nE cE, .slice aO nO cO, .slice aS nS cS, .int .i64 d.room, .int .i64 d.next] 32)
  have bx := sc.Box.new w #[.slice aN nN cN, .slice aE nE cE, .slice aO nO cO, .slice aS nS cS, .int .i64 d.room, .int .i64 d.next] 32
  obtain ⟨W, hW⟩ : ∃ W, W = w.alloc (.cells #[.slice aN nN cN, .slice aE nE cE, .slice aO nO cO, .slice aS nS cS, .int .i64 d.room, .int .i64 d.next] 32) := ⟨_, rfl⟩
  rw [← hW] at bw bx
  have HV : Hid (IsDisk W (.agg #[.slice aN nN cN, .slice aE nE cE, .slice aO nO cO, .slice aS nS cS, .int .i64 d.room, .int .i64 d.next]) d) := Lib.hid ⟨aN, aE, aO, aS, nN, cN, nE, cE, nO, cO, nS, cS, rfl, h1.below bw, h2.below bw, h3.below bw, h4.below bw⟩
  have B0 := Lib.hid bw
  have X0 := Lib.hid bx
  have HG := Lib.hid (hg.below bw)
  have HK := Lib.hid hk
  have HV0 : Hid (IsDisk w (.agg #[.slice aN nN cN, .slice aE nE cE, .slice aO nO cO, .slice aS nS cS, .int .i64 d.room, .int .i64 d.next]) d) := Lib.hid ⟨aN, aE, aO, aS, nN, cN, nE, cE, nO, cO, nS, cS, rfl, h1, h2, h3, h4⟩
  have HG0 := Lib.hid hg
  clear h1 h2 h3 h4 bw bx hg
  have CN := Lib.hid (fun (x : Later W) => implSeg_any base x.val (HG.out.below x.2).t64)
  have CR := Lib.hid (fun (x : Later W) => iReadFile _ d (segI base) x.val HK.out (HV.out.below x.2))
  have HT := Lib.hid (show tAt d base = textR (nodeAt d (segI base)) from rfl)
  obtain ⟨T, hT⟩ : ∃ T, tAt d base = T := ⟨_, rfl⟩
  rw [hT] at HT ⊢
  rw [← HT.out] at CR
  obtain ⟨q, hq⟩ : ∃ q, (nodeAt d (segI base)).isSome = q := ⟨_, rfl⟩
  rw [hq] at CR
  obtain ⟨s, hs⟩ : ∃ s, segI base = s := ⟨_, rfl⟩
  rw [hs] at CN CR
  clear hs hq hT hk
  go_enter Tryd.func7, Tryd.ntmps7
  go_wp2
  rw [← hW]
  clear hW
  have y0 := Later.cell (X0.out.at 0 _ rfl) X0.out.lt
  have y1 := Later.cell (X0.out.at 1 _ rfl) X0.out.lt
  have y2 := Later.cell (X0.out.at 2 _ rfl) X0.out.lt
  have y3 := Later.cell (X0.out.at 3 _ rfl) X0.out.lt
  have y4 := Later.cell (X0.out.at 4 _ rfl) X0.out.lt
  have y5 := Later.cell (X0.out.at 5 _ rfl) X0.out.lt
  refine wp_region_later (by kernel_rfl) (by kernel_rfl) ?_
  repeat (first | go_big_quiet_skip | (go_big_quiet_want; go_big_quiet_op; go_big_quiet_on))
  go_big_quiet_want
  go_big_quiet_op
  apply Exists.intro
  refine ⟨fun x => ?_, ?_⟩
  · go_at_call 18
    exact Calls.later (CN.out x)
  go_big_quiet_on
  repeat (first | go_big_quiet_skip | (go_big_quiet_want; go_big_quiet_op; go_big_quiet_on))
  go_big_quiet_want
  go_big_quiet_op
  apply Exists.intro
  refine ⟨fun x => ?_, ?_⟩
  · go_at_call 17
    exact Calls.later (CR.out x)
  go_big_quiet_on
  repeat (first | go_big_quiet_skip | (go_big_quiet_want; go_big_quiet_op; go_big_quiet_on))
  refine wpQuiet_nil ?_
  rintro w2 ⟨x2, hx2⟩
  have hb2 : Below W.heap.size W w2 := hx2 ▸ x2.2
  clear hx2 x2
  clear y0 y1 y2 y3 y4 y5
  go_wp2
  go_ret
  exact ⟨rfl, B0.out.trans (hb2.mono B0.out.size)⟩
theorem implTextAt (v : Value) (d : D) (base : Int) (w : World) (_ : 0 ≤ base) (_ : base ≤ 16777216) (hk : okD d) (hv : IsDisk w v d) (hg : GT w) :
    Calls Tryd.prog 7 #[v, .int .i64 base] w fun e w' => e = .returned (.string (tAt d base)) ∧ Below w.heap.size w w' := implTextAny v d base w hk hv hg

theorem iTextAt (v : Value) (d : D) (base : Int) (w : World) (hk : okD d) (hv : IsDisk w v d) (hg : GT w) :
    Calls Tryd.prog 7 #[v, .int .i64 base] w fun e w' => e = .returned (.string (tAt d base)) ∧ Below w.heap.size w w' := implTextAny v d base w hk hv hg

end Go.Proofs.YtiehfobcbhgfkaaDoor.row
