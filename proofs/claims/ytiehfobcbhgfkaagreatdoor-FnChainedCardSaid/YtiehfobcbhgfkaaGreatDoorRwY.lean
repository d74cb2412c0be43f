/-
  The landed TextAt.
-/
import Derived.Test.YtiehfobcbhgfkaaGreatDoorRwX
import Derived.Test.YtiehfobcbhgfkaaGreatDoorIkX
import Derived.Test.YtiehfobcbhgfkaaGreatDoorNmX
import Derived.Test.YtiehfobcbhgfkaaGreatDoorLater
import Derived.BigQuiet
import Derived.Test.YtiehfobcbhgfkaaGreatDoorHold
import Derived.Test.YtiehfobcbhgfkaaGreatDoorKdX
import Derived.Test.YtiehfobcbhgfkaaGreatDoorRwMG
import Derived.Test.YtiehfobcbhgfkaaGreatDoorScR
import Derived.Test.YtiehfobcbhgfkaaGreatDoorHdL
import Derived.Test.YtiehfobcbhgfkaaGreatDoorShelfX
import Derived.Sort.OwnSorted
import Derived.Lib.OwnBridge
import Derived.Lib.SliceRun
namespace Go.Proofs.YtiehfobcbhgfkaaGreatDoor.row
set_option maxRecDepth 20000
open Go.RowKit
open kit sum num burst hd fr recs sc disk kd nam

/-- the library's variables that names are written with -/
structure GT (w : World) : Prop where
  t64 : Tab64 w
theorem GT.below {w w' : World} (h : GT w) (hb : Below w.heap.size w w') : GT w' := ⟨tab64_below h.t64 hb⟩
theorem gt_of {w : World} (h : hold.F_math_bits_deBruijn64tab w) : GT w := ⟨h⟩

set_option maxHeartbeats 1000000 in
theorem implTextAny (v : Value) (d : D) (base : Int) (w : World) (hk : okD d) (hv : IsDisk w v d) (hg : GT w) :
    Calls Tryz.prog 24 #[v, .int .i64 base] w fun e w' => e = .returned (.string (tAt d base)) ∧ Below w.heap.size w w' := by
  obtain ⟨aN, aE, aO, aS, nN, cN, nE, cE, nO, cO, nS, cS, rfl, h1, h2, h3, h4⟩ := hv
  have bw := (Below.refl w.heap.size w).alloc (Nat.le_refl _) (.cells #[.slice aN nN cN, .slice aE nE cE, .slice aO nO cO, .slice aS nS cS, .int .i64 d.room, .int .i64 d.next] 28)
  have bx := sc.Box.new w #[.slice aN nN cN, .slice aE nE cE, .slice aO nO cO, .slice aS nS cS, .int .i64 d.room, .int .i64 d.next] 28
  obtain ⟨W, hW⟩ : ∃ W, W = w.alloc (.cells #[.slice aN nN cN, .slice aE nE cE, .slice aO nO cO, .slice aS nS cS, .int .i64 d.room, .int .i64 d.next] 28) := ⟨_, rfl⟩
  rw [← hW] at bw bx
  have HV : Hid (IsDisk W (.agg #[.slice aN nN cN, .slice aE nE cE, .slice aO nO cO, .slice aS nS cS, .int .i64 d.room, .int .i64 d.next]) d) := Lib.hid ⟨aN, aE, aO, aS, nN, cN, nE, cE, nO, cO, nS, cS, rfl, h1.below bw, h2.below bw, h3.below bw, h4.below bw⟩
  have B0 := Lib.hid bw
  have X0 := Lib.hid bx
  have HG := Lib.hid (hg.below bw)
  have HK := Lib.hid hk
  have HV0 : Hid (IsDisk w (.agg #[.slice aN nN cN, .slice aE nE cE, .slice aO nO cO, .slice aS nS cS, .int .i64 d.room, .int .i64 d.next]) d) := Lib.hid ⟨aN, aE, aO, aS, nN, cN, nE, cE, nO, cO, nS, cS, rfl, h1, h2, h3, h4⟩
  have HG0 := Lib.hid hg
  clear h1 h2 h3 h4 bw bx hg
  have CN := Lib.hid (fun (x : Later W) => implSeg_any base x.val (HG.out.below x.2).t64)
  have CR := Lib.hid (fun (x : Later W) => iReadFile _ d (segI base) x.val HK.out (HV.out.below x.2))
  have HT := Lib.hid (show tAt d base = textR (nodeAt d (segI base)) from rfl)
  obtain ⟨T, hT⟩ : ∃ T, tAt d base = T := ⟨_, rfl⟩
  rw [hT] at HT ⊢
  rw [← HT.out] at CR
  obtain ⟨q, hq⟩ : ∃ q, (nodeAt d (segI base)).isSome = q := ⟨_, rfl⟩
  rw [hq] at CR
  obtain ⟨s, hs⟩ : ∃ s, segI base = s := ⟨_, rfl⟩
  rw [hs] at CN CR
  clear hs hq hT hk
  go_enter Tryz.func24, Tryz.ntmps24
  go_wp2
  rw [← hW]
  clear hW
  have y0 := Later.cell (X0.out.at 0 _ rfl) X0.out.lt
  have y1 := Later.cell (X0.out.at 1 _ rfl) X0.out.lt
  have y2 := Later.cell (X0.out.at 2 _ rfl) X0.out.lt
  have y3 := Later.cell (X0.out.at 3 _ rfl) X0.out.lt
  have y4 := Later.cell (X0.out.at 4 _ rfl) X0.out.lt
  have y5 := Later.cell (X0.out.at 5 _ rfl) X0.out.lt
  refine wp_region_later (by kernel_rfl) (by kernel_rfl) ?_
  repeat (first | go_big_quiet_skip | (go_big_quiet_want; go_big_quiet_op; go_big_quiet_on))
  go_big_quiet_want
  go_big_quiet_op
  apply Exists.intro
  refine ⟨fun x => ?_, ?_⟩
  · go_at_call 63
    exact Calls.later (CN.out x)
  go_big_quiet_on
  repeat (first | go_big_quiet_skip | (go_big_quiet_want; go_big_quiet_op; go_big_quiet_on))
  go_big_quiet_want
  go_big_quiet_op
  apply Exists.intro
  refine ⟨fun x => ?_, ?_⟩
  · go_at_call 62
    exact Calls.later (CR.out x)
  go_big_quiet_on
  repeat (first | go_big_quiet_skip | (go_big_quiet_want; go_big_quiet_op; go_big_quiet_on))
  refine wpQuiet_nil ?_
  rintro w2 ⟨x2, hx2⟩
  have hb2 : Below W.heap.size W w2 := hx2 ▸ x2.2
  clear hx2 x2
  clear y0 y1 y2 y3 y4 y5
  go_wp2
  go_ret
  exact ⟨rfl, B0.out.trans (hb2.mono B0.out.size)⟩
theorem implTextAt (v : Value) (d : D) (base : Int) (w : World) (_ : 0 ≤ base) (_ : base ≤ 16777216) (hk : okD d) (hv : IsDisk w v d) (hg : GT w) :
    Calls Tryz.prog 24 #[v, .int .i64 base] w fun e w' => e = .returned (.string (tAt d base)) ∧ Below w.heap.size w w' := implTextAny v d base w hk hv hg

end Go.Proofs.YtiehfobcbhgfkaaGreatDoor.row

namespace Go.Proofs.YtiehfobcbhgfkaaGreatDoor.row
set_option maxRecDepth 20000
open Go.RowKit
open kit sum num burst hd fr recs sc disk kd nam

/-- .. and read with -/
structure GW (w : World) : Prop where
  t64 : Tab64 w
  syn : Synt w
theorem GW.below {w w' : World} (h : GW w) (hb : Below w.heap.size w w') : GW w' := ⟨tab64_below h.t64 hb, synt_below h.syn hb⟩
theorem GW.gt {w : World} (h : GW w) : GT w := ⟨h.t64⟩

theorem box_only {w w' : World} {g : Nat} {cs : List Value} {S : Nat → Prop} (h : sc.Box w g cs) (o : disk.Only w w' S) (hg : ¬ S g) : sc.Box w' g cs := by
  refine ⟨⟨Nat.lt_of_lt_of_le h.lt o.size, fun i v hi => ?_⟩, fun j => ?_⟩
  · rw [← h.1.2 i v hi]
    unfold World.cell?
    rw [o.block g h.lt hg]
  · exact (World.frozen?_of_block (a := ⟨g, j, none⟩) (o.block g h.lt hg)).trans (h.2 j)
theorem set_grown (w : World) (g i : Nat) (v : Value) : w.grownBy (w.setCell ⟨g, i, none⟩ v) (some g) := ⟨rfl, rfl, rfl, by simp, fun k _ hne => Below.heap_setCell w ⟨g, i, none⟩ v k (fun e => hne (by rw [e]))⟩
theorem only_set (w : World) (g i : Nat) (v : Value) : disk.Only w (w.setCell ⟨g, i, none⟩ v) (· = g) := disk.Only.of_grown (set_grown w g i v) (fun _ e => (Option.some.inj e).symm)
theorem only_grown {w a b : World} {S : Nat → Prop} {row : Option Nat} (h : disk.Only w a S) (g : a.grownBy b row) (hs : ∀ k, row = some k → w.heap.size ≤ k) : disk.Only w b S :=
  ⟨g.os.trans h.os, g.tape.trans h.tape, g.output.trans h.output, Nat.le_trans h.size g.size, fun k hk hn => (g.block k (Nat.lt_of_lt_of_le hk h.size) (fun e => by have := hs k e.symm; omega)).trans (h.block k hk hn)⟩

/-- how many records a file goes on with, and the link behind it -/
def goN (T : ByteArray) (base link : Int) : Int := if goesB T base link = true then ((sc.recs T).length : Int) else 0
def goL (T : ByteArray) (base link : Int) : Int := if goesB T base link = true then (linkN T : Int) else link

set_option maxHeartbeats 2000000 in
theorem implGoing (aN aE aO aS : Option Addr) (nN cN nE cE nO cO nS cS : Nat) (d : D) (base link : Int) (gd gl : Nat) (w : World) (h0 : 0 ≤ base) (h1 : base ≤ 16777216) (hk : okD d)
    (hd : sc.Box w gd [.slice aN nN cN, .slice aE nE cE, .slice aO nO cO, .slice aS nS cS, .int .i64 d.room, .int .i64 d.next]) (hv : IsDisk w (.agg #[.slice aN nN cN, .slice aE nE cE, .slice aO nO cO, .slice aS nS cS, .int .i64 d.room, .int .i64 d.next]) d) (hl : sc.Box w gl [.int .i64 link]) (hg : GT w) :
    Calls Tryz.prog 100 #[.int .i64 base, .pointer (some ⟨gd, 0, none⟩), .pointer (some ⟨gl, 0, none⟩)] w fun e w' =>
      e = .returned (.int .i64 (goN (tAt d base) base link)) ∧ disk.Only w w' (· = gl) ∧ sc.Box w' gl [.int .i64 (goL (tAt d base) base link)] := by
  have CT := Lib.hid (implTextAt _ d base w h0 h1 hk hv hg)
  have HL := Lib.hid hl
  have hT := tAt_le hk.2 base
  obtain ⟨T, hTT⟩ : ∃ T, tAt d base = T := ⟨_, rfl⟩
  rw [hTT] at CT hT ⊢
  have CG := Lib.hid (fun w => implGoes T base link w hT)
  have CL := Lib.hid (fun w => implLinkAfter T w hT)
  have CR := Lib.hid (fun w => implRecords T w hT)
  have HN := Lib.hid (show goN T base link = if goesB T base link = true then ((sc.recs T).length : Int) else 0 from rfl)
  have HM := Lib.hid (show goL T base link = if goesB T base link = true then (linkN T : Int) else link from rfl)
  obtain ⟨n, hn⟩ : ∃ n, goN T base link = n := ⟨_, rfl⟩
  obtain ⟨m, hm⟩ : ∃ m, goL T base link = m := ⟨_, rfl⟩
  rw [hn] at HN ⊢
  rw [hm] at HM ⊢
  obtain ⟨rs, hrs⟩ : ∃ rs, sc.recs T = rs := ⟨_, rfl⟩
  rw [hrs] at CR HN
  obtain ⟨gb, hgb⟩ : ∃ gb, goesB T base link = gb := ⟨_, rfl⟩
  rw [hgb] at CG HN HM
  have x0 := hd.at 0 _ rfl
  have x1 := hd.at 1 _ rfl
  have x2 := hd.at 2 _ rfl
  have x3 := hd.at 3 _ rfl
  have x4 := hd.at 4 _ rfl
  have x5 := hd.at 5 _ rfl
  clear hTT hn hm hrs hgb hk hd hv hl hg h0 h1 hT
  go_enter Tryz.func100, Tryz.ntmps100
  go_wp2_with (fail)
  refine CT.out.mono ?_
  rintro e w1 ⟨rfl, b1⟩
  have B1 := Lib.hid b1
  have l1 := (HL.out.below b1).at 0 _ rfl
  clear b1 x0 x1 x2 x3 x4 x5
  go_wp2_with (fail)
  refine (CG.out w1).mono ?_
  rintro e w2 ⟨rfl, b2⟩
  have B2 := Lib.hid (B1.out.trans (b2.mono B1.out.size))
  clear b2 l1
  cases gb with
  | false =>
    have HN0 := Lib.hid (show n = 0 from HN.out)
    have HM0 := Lib.hid (show m = link from HM.out)
    go_wp2
    go_ret
    rw [HN0.out, HM0.out]
    exact ⟨rfl, disk.Only.of_below B2.out, HL.out.below B2.out⟩
  | true =>
    have HN1 := Lib.hid (show n = (rs.length : Int) from HN.out)
    have HM1 := Lib.hid (show m = (linkN T : Int) from HM.out)
    go_wp2_with (fail)
    refine (CL.out w2).mono ?_
    rintro e w3 ⟨rfl, b3⟩
    have B3 := Lib.hid (B2.out.trans (b3.mono B2.out.size))
    have L3 := Lib.hid (HL.out.below B3.out)
    have l3 := L3.out.at 0 _ rfl
    have f3 := L3.out.2 0
    clear b3
    go_wp2_with (fail)
    clear l3 f3
    refine (CR.out _).mono ?_
    rintro e w5 ⟨⟨v5, rfl, o5⟩, b5⟩
    obtain ⟨a5, c5, rfl, _, _, _⟩ := own_form o5
    have O5 := Lib.hid ((disk.Only.of_below B3.out).trans ((only_set w3 gl 0 (.int .i64 (linkN T : Int))).trans (disk.Only.of_below b5)))
    have L5 := Lib.hid ((L3.out.set 0 (.int .i64 (linkN T : Int)) (by simp)).below b5)
    clear b5 o5
    go_wp2
    go_ret
    rw [HN1.out, HM1.out]
    exact ⟨rfl, O5.out, L5.out⟩

set_option maxHeartbeats 1000000 in
theorem implGoingOn (aN aE aO aS : Option Addr) (nN cN nE cE nO cO nS cS : Nat) (r x : Int) (w : World) :
    Calls Tryz.prog 53 #[.agg #[.slice aN nN cN, .slice aE nE cE, .slice aO nO cO, .slice aS nS cS, .int .i64 r, .int .i64 x]] w fun e w' =>
      e = .returned (.func (.func 100) #[] #[.pointer (some ⟨w.heap.size, 0, none⟩), .pointer (some ⟨w.heap.size + 1, 0, none⟩)]) ∧ Below w.heap.size w w' ∧ w'.heap.size = w.heap.size + 2 ∧
      sc.Box w' w.heap.size [.slice aN nN cN, .slice aE nE cE, .slice aO nO cO, .slice aS nS cS, .int .i64 r, .int .i64 x] ∧ sc.Box w' (w.heap.size + 1) [.int .i64 0] := by
  obtain ⟨W, hW⟩ : ∃ W, W = (w.alloc (.cells #[.slice aN nN cN, .slice aE nE cE, .slice aO nO cO, .slice aS nS cS, .int .i64 r, .int .i64 x] 28)).alloc (.cells #[.int .i64 0] 3) := ⟨_, rfl⟩
  have hb : Below w.heap.size w W := by rw [hW]; exact ((Below.refl _ _).alloc (Nat.le_refl _) _).alloc (by simp) _
  have hs : W.heap.size = w.heap.size + 2 := by rw [hW]; simp
  have b1 : sc.Box W w.heap.size [.slice aN nN cN, .slice aE nE cE, .slice aO nO cO, .slice aS nS cS, .int .i64 r, .int .i64 x] := by
    rw [hW]
    exact (sc.Box.new w #[.slice aN nN cN, .slice aE nE cE, .slice aO nO cO, .slice aS nS cS, .int .i64 r, .int .i64 x] _).below ((Below.refl _ _).alloc (Nat.le_refl _) _)
  have b2 : sc.Box W (w.heap.size + 1) [.int .i64 0] := by
    have h := sc.Box.new (w.alloc (.cells #[.slice aN nN cN, .slice aE nE cE, .slice aO nO cO, .slice aS nS cS, .int .i64 r, .int .i64 x] 28)) #[.int .i64 0] 3
    rw [← hW] at h
    simpa using h
  have H := Lib.hid (show Below w.heap.size w W ∧ W.heap.size = w.heap.size + 2 ∧ sc.Box W w.heap.size [.slice aN nN cN, .slice aE nE cE, .slice aO nO cO, .slice aS nS cS, .int .i64 r, .int .i64 x] ∧ sc.Box W (w.heap.size + 1) [.int .i64 0] from ⟨hb, hs, b1, b2⟩)
  clear hb hs b1 b2
  go_enter Tryz.func53, Tryz.ntmps53
  go_wp2
  rw [← hW]
  go_ret
  exact ⟨rfl, H.out⟩

set_option maxHeartbeats 4000000 in
theorem implChain (v : Value) (d : D) (w : World) (hk : okD d) (hv : IsDisk w v d) (hg : GT w) :
    Calls Tryz.prog 15 #[v] w fun e w' => ∃ u, e = .returned u ∧ w'.ownsRow w.heap.size 3 1 u (chain d).length ((chain d).map (Value.int .i64)) ∧ Below w.heap.size w w' := by
  obtain ⟨i1, gi, gz0, gz1, gz2⟩ := info_parts ints.Tryz.infoInt
  obtain ⟨aN, aE, aO, aS, nN, cN, nE, cE, nO, cO, nS, cS, rfl, h1, h2, h3, h4⟩ := hv
  have bw := (Below.refl w.heap.size w).alloc (Nat.le_refl _) (.cells #[.slice aN nN cN, .slice aE nE cE, .slice aO nO cO, .slice aS nS cS, .int .i64 d.room, .int .i64 d.next] 28)
  have bx := sc.Box.new w #[.slice aN nN cN, .slice aE nE cE, .slice aO nO cO, .slice aS nS cS, .int .i64 d.room, .int .i64 d.next] 28
  obtain ⟨W, hW⟩ : ∃ W, W = w.alloc (.cells #[.slice aN nN cN, .slice aE nE cE, .slice aO nO cO, .slice aS nS cS, .int .i64 d.room, .int .i64 d.next] 28) := ⟨_, rfl⟩
  rw [← hW] at bw bx
  have HV : Hid (IsDisk W (.agg #[.slice aN nN cN, .slice aE nE cE, .slice aO nO cO, .slice aS nS cS, .int .i64 d.room, .int .i64 d.next]) d) := Lib.hid ⟨aN, aE, aO, aS, nN, cN, nE, cE, nO, cO, nS, cS, rfl, h1.below bw, h2.below bw, h3.below bw, h4.below bw⟩
  have B0 := Lib.hid bw
  have X0 := Lib.hid bx
  have HG := Lib.hid (hg.below bw)
  have HK := Lib.hid hk
  have HV0 : Hid (IsDisk w (.agg #[.slice aN nN cN, .slice aE nE cE, .slice aO nO cO, .slice aS nS cS, .int .i64 d.room, .int .i64 d.next]) d) := Lib.hid ⟨aN, aE, aO, aS, nN, cN, nE, cE, nO, cO, nS, cS, rfl, h1, h2, h3, h4⟩
  have HG0 := Lib.hid hg
  clear h1 h2 h3 h4 bw bx hg
  have HF := Lib.hid (Far.start d)
  have CG := Lib.hid (implGoingOn aN aE aO aS nN cN nE cE nO cO nS cS d.room d.next W)
  clear hk
  have x0 := X0.out.at 0 _ rfl
  have x1 := X0.out.at 1 _ rfl
  have x2 := X0.out.at 2 _ rfl
  have x3 := X0.out.at 3 _ rfl
  have x4 := X0.out.at 4 _ rfl
  have x5 := X0.out.at 5 _ rfl
  rw [hW] at x0 x1 x2 x3 x4 x5
  go_enter Tryz.func15, Tryz.ntmps15
  go_wp2_with (fail)
  rw [← hW]
  clear hW x0 x1 x2 x3 x4 x5
  refine CG.out.mono ?_
  rintro e Wc ⟨rfl, bc, hsz, bd, bl⟩
  have VC := Lib.hid (HV.out.below bc)
  have GC := Lib.hid (HG.out.below bc)
  have BC := Lib.hid (B0.out.trans (bc.mono B0.out.size))
  have BD := Lib.hid bd
  have BL := Lib.hid bl
  have SZ := Lib.hid hsz
  have SW := Lib.hid B0.out.size
  obtain ⟨gd, hgd⟩ : ∃ gd, gd = W.heap.size := ⟨_, rfl⟩
  rw [← hgd] at BD BL SZ SW ⊢
  have O1 := Lib.hid (World.ownsRow_nil Wc Wc.heap.size 3 1)
  have N1 := Lib.hid (disk.Only.of_below (S := (· = gd + 1)) (Below.refl Wc.heap.size Wc))
  clear bc bd bl hsz hgd
  go_wp2
  go_loopw [4, 5, 6] (fun o bs _ wr => ∃ (xs : List Int) (base link : Int), bs = .int .i64 base ∧ Hid (Far d xs base link) ∧ Hid (wr.ownsRow Wc.heap.size 3 1 o xs.length (xs.map (Value.int .i64))) ∧ Hid (disk.Only Wc wr (· = gd + 1)) ∧ Hid (sc.Box wr (gd + 1) [.int .i64 link])) (fun o _ _ _ => match o with | .slice _ n _ => 16 - n | _ => 0)
  case atStart => exact ⟨[], 0, 0, rfl, HF, O1, N1, BL⟩
  case round =>
    obtain ⟨xs, base, link, rfl, FF, OO, NN, LL⟩ := hrel
    obtain ⟨a, c, rfl, _, _, _⟩ := own_form OO.out
    have hlen := FF.out.len
    have BB := Lib.hid (show Below w.heap.size w wr from BC.out.trans (NN.out.below BC.out.size (fun k e => by have := SW.out; have := SZ.out; omega)))
    by_cases hlt : xs.length < 16
    · have lo := FF.out.lo
      have hi' := FF.out.hi
      have hT := tAt_le HK.out.2 base
      have hrl := recs_few HK.out.2 base
      have CT := Lib.hid (implGoing aN aE aO aS nN cN nE cE nO cO nS cS d base link gd (gd + 1) wr lo (by omega) HK.out (box_only BD.out NN.out (by omega)) (HV0.out.below BB.out) LL.out (HG0.out.below BB.out))
      have hgo : goOnB d base link = (!(decide ((sc.recs (tAt d base)).length = 0)) && goesB (tAt d base) base link) := rfl
      have FN := Lib.hid (fun h => FF.out.next HK.out.2 hlt h)
      have FS := Lib.hid (fun h => FF.out.stop h)
      have hgn : goN (tAt d base) base link = if goesB (tAt d base) base link = true then ((sc.recs (tAt d base)).length : Int) else 0 := rfl
      have hgl : goL (tAt d base) base link = if goesB (tAt d base) base link = true then (linkN (tAt d base) : Int) else link := rfl
      obtain ⟨T, hTT⟩ : ∃ T, tAt d base = T := ⟨_, rfl⟩
      rw [hTT] at hT CT hgo FN hrl hgn hgl
      obtain ⟨n, hn⟩ : ∃ n, (sc.recs T).length = n := ⟨_, rfl⟩
      rw [hn] at hgo FN hrl hgn
      obtain ⟨gb, hgb⟩ : ∃ gb, goesB T base link = gb := ⟨_, rfl⟩
      rw [hgb] at hgo hgn hgl
      obtain ⟨ln, hln⟩ : ∃ ln, linkN T = ln := ⟨_, rfl⟩
      rw [hln] at FN hgl
      obtain ⟨gn, hgn'⟩ : ∃ gn, goN T base link = gn := ⟨_, rfl⟩
      rw [hgn'] at CT hgn
      obtain ⟨gk, hgk'⟩ : ∃ gk, goL T base link = gk := ⟨_, rfl⟩
      rw [hgk'] at CT hgl
      have i0 : (xs.length : Int) < 16 := by omega
      have HGO := Lib.hid hgo
      have HGN := Lib.hid hgn
      have HGL := Lib.hid hgl
      clear hTT hn hgb hln hgo FF hgn hgl hgn' hgk'
      go_wp2_with (fail)
      refine CT.out.mono ?_
      rintro e w2 ⟨rfl, n2, l2⟩
      have N2 := Lib.hid (NN.out.trans n2)
      have L2 := Lib.hid l2
      have O2 := Lib.hid (disk.own_only OO.out n2 (fun k e => by have := (sc.own_block_ge OO.out k e).1; have := SZ.out; have := SW.out; omega))
      clear n2 l2 CT OO NN LL
      by_cases hn0 : gn = 0
      · have HS := Lib.hid (FS.out (by
          rw [HGO.out]
          have h := HGN.out
          rw [hn0] at h
          cases gb with
          | false => simp
          | true =>
            have : n = 0 := by simp at h; omega
            simp [this]))
        subst hn0
        have BE := Lib.hid (show Below w.heap.size w w2 from BC.out.trans (N2.out.below BC.out.size (fun k e => by have := SW.out; have := SZ.out; omega)))
        clear FN FS HGO HGN HGL
        go_wp2
        go_ret
        rw [HS.out]
        exact ⟨_, rfl, own_base O2.out (by have := BC.out.size; omega), BE.out⟩
      · have hgb : gb = true := by
          cases gb with
          | true => rfl
          | false => exact absurd HGN.out hn0
        subst hgb
        have e1 : gn = (n : Int) := HGN.out
        have e2 : gk = (ln : Int) := HGL.out
        subst e1 e2
        have hnn : ¬ n = 0 := by omega
        have HN := Lib.hid (FN.out (by rw [HGO.out, decide_eq_false hnn]; rfl))
        have n0 : ((n : Int) == 0) = false := by rw [beq_eq_false_iff_ne]; omega
        have b0 := HN.out.hi
        have SZ2 := Lib.hid N2.out.size
        clear FN FS HGO HGN HGL hn0
        go_wp2_with (first | (at_builtin; refine sc.list_app3 (by rfl) (.tmp 17) (.tmp 19) 31 (by rfl) Wc.heap.size w2 3 i1 (.int .i64 0) 8 Tryz.underlying31 gi gz0 gz1 gz2 (by rfl) _ xs.length _ O2.out SZ2.out [.int .i64 base] 1 ?_ ?_ ?_ ?_ (by rfl) (by rfl) ?_ ?_; rfl; simp [Value.oneCell']; unfold maxLen; omega; omega; rfl; intro v5 w5 o5 g5; obtain ⟨a5, c5, rfl, _, _, _⟩ := own_form o5; have N5 := Lib.hid (only_grown N2.out g5 (fun k hk => (sc.own_block_ge O2.out k hk).1)); have L5 := Lib.hid (L2.out.grown g5 (fun e => by have := (sc.own_block_ge O2.out _ e).1; have := SZ.out; have := SW.out; omega))) | fail)
        go_roundw
        case rel => exact ⟨xs ++ [base], base + (n : Int), (ln : Int), rfl, HN, Lib.hid (by simpa using o5), N5, L5⟩
        case measure => simp; omega
    · have HS := Lib.hid (FF.out.full hlt)
      have i0 : ¬ (xs.length : Int) < 16 := by omega
      go_wp2
      go_ret
      rw [HS.out]
      exact ⟨_, rfl, own_base OO.out (by have := BC.out.size; omega), BB.out⟩

end Go.Proofs.YtiehfobcbhgfkaaGreatDoor.row

namespace Go.Proofs.YtiehfobcbhgfkaaGreatDoor.row
set_option maxRecDepth 20000
open Go.RowKit
open kit sum num burst hd fr recs sc disk kd nam

theorem row_texts (d : D) : rowOf d = (texts d).flatMap sc.recs := by
  unfold rowOf texts
  rw [List.flatMap_map]
theorem recs_total {l : List ByteArray} (h : ∀ t ∈ l, t.size ≤ 1048576) : (l.flatMap sc.recs).length ≤ 1048576 * l.length := by
  induction l with
  | nil => exact Nat.le_refl _
  | cons x xs ih =>
    rw [List.flatMap_cons, List.length_append, List.length_cons]
    have h1 := recs_le x
    have h2 := h x (List.mem_cons_self ..)
    have := ih fun t ht => h t (List.mem_cons_of_mem _ ht)
    omega
theorem texts_small {d : D} (h : bulk d ≤ 1048576) : ∀ t ∈ texts d, t.size ≤ 1048576 := fun t ht => by
  obtain ⟨b, _, rfl⟩ := List.mem_map.1 ht
  exact tAt_le h b

set_option maxHeartbeats 4000000 in
theorem implTexts (v : Value) (d : D) (w : World) (hk : okD d) (hv : IsDisk w v d) (hg : GT w) :
    Calls Tryz.prog 34 #[v] w fun e w' => ∃ u, e = .returned u ∧ w'.ownsRow w.heap.size 9 1 u (texts d).length ((texts d).map Value.string) ∧ Below w.heap.size w w' := by
  obtain ⟨i1, gi, gz0, gz1, gz2⟩ := info_parts strs.Tryz.infoStr
  obtain ⟨aN, aE, aO, aS, nN, cN, nE, cE, nO, cO, nS, cS, rfl, h1, h2, h3, h4⟩ := hv
  have bw := (Below.refl w.heap.size w).alloc (Nat.le_refl _) (.cells #[.slice aN nN cN, .slice aE nE cE, .slice aO nO cO, .slice aS nS cS, .int .i64 d.room, .int .i64 d.next] 28)
  have bx := sc.Box.new w #[.slice aN nN cN, .slice aE nE cE, .slice aO nO cO, .slice aS nS cS, .int .i64 d.room, .int .i64 d.next] 28
  obtain ⟨W, hW⟩ : ∃ W, W = w.alloc (.cells #[.slice aN nN cN, .slice aE nE cE, .slice aO nO cO, .slice aS nS cS, .int .i64 d.room, .int .i64 d.next] 28) := ⟨_, rfl⟩
  rw [← hW] at bw bx
  have HV : Hid (IsDisk W (.agg #[.slice aN nN cN, .slice aE nE cE, .slice aO nO cO, .slice aS nS cS, .int .i64 d.room, .int .i64 d.next]) d) := Lib.hid ⟨aN, aE, aO, aS, nN, cN, nE, cE, nO, cO, nS, cS, rfl, h1.below bw, h2.below bw, h3.below bw, h4.below bw⟩
  have B0 := Lib.hid bw
  have X0 := Lib.hid bx
  have HG := Lib.hid (hg.below bw)
  have HK := Lib.hid hk
  have HV0 : Hid (IsDisk w (.agg #[.slice aN nN cN, .slice aE nE cE, .slice aO nO cO, .slice aS nS cS, .int .i64 d.room, .int .i64 d.next]) d) := Lib.hid ⟨aN, aE, aO, aS, nN, cN, nE, cE, nO, cO, nS, cS, rfl, h1, h2, h3, h4⟩
  have HG0 := Lib.hid hg
  clear h1 h2 h3 h4 bw bx hg
  have hcl := chain_length d
  have HCI := Lib.hid (chain_in hk.2)
  have HRD := Lib.hid (show texts d = (chain d).map (tAt d) from rfl)
  have CC0 := implChain _ d W hk HV.out HG.out
  obtain ⟨ch, hch⟩ : ∃ ch, chain d = ch := ⟨_, rfl⟩
  rw [hch] at CC0 hcl HCI HRD
  clear hk hch
  have CC := Lib.hid CC0
  clear CC0
  have x0 := X0.out.at 0 _ rfl
  have x1 := X0.out.at 1 _ rfl
  have x2 := X0.out.at 2 _ rfl
  have x3 := X0.out.at 3 _ rfl
  have x4 := X0.out.at 4 _ rfl
  have x5 := X0.out.at 5 _ rfl
  rw [hW] at x0 x1 x2 x3 x4 x5
  go_enter Tryz.func34, Tryz.ntmps34
  go_wp2_with (fail)
  rw [← hW]
  clear hW x0 x1 x2 x3 x4 x5
  refine CC.out.mono ?_
  rintro e w2 ⟨u2, rfl, o2, b2⟩
  obtain ⟨aC, cC, rfl, _, _, _⟩ := own_form o2
  have B2 := Lib.hid (B0.out.trans (b2.mono B0.out.size))
  have X2 := Lib.hid (X0.out.below b2)
  have OC := Lib.hid (ints.At.of_own o2)
  have O2 := Lib.hid (World.ownsRow_nil w2 w2.heap.size 9 1)
  have BR := Lib.hid (Below.refl w2.heap.size w2)
  clear b2 o2 CC
  go_wp2
  go_loopw [3, 5, 9] (fun o _ i wr => ∃ k : Nat, k ≤ ch.length ∧ i = .int .i64 k ∧ Hid (wr.ownsRow w2.heap.size 9 1 o ((ch.take k).map (tAt d)).length (((ch.take k).map (tAt d)).map Value.string)) ∧ Hid (Below w2.heap.size w2 wr)) (fun _ _ i _ => ch.length - (intOf i).toNat)
  case atStart => exact ⟨0, Nat.zero_le _, rfl, O2, BR⟩
  case round =>
    obtain ⟨k, hk', rfl, OO, BB⟩ := hrel
    obtain ⟨a, c, rfl, _, _, _⟩ := own_form OO.out
    by_cases hlt : k < ch.length
    · obtain ⟨x, hxk⟩ : ∃ x, ch[k]? = some x := ⟨_, List.getElem?_eq_getElem hlt⟩
      have hin := HCI.out x (List.mem_of_getElem? hxk)
      have HT := Lib.hid (map_take1 (tAt d) hxk)
      have hfl : ((ch.take k).map (tAt d)).length ≤ 16 := by rw [List.length_map, List.length_take]; omega
      obtain ⟨ps, hps⟩ : ∃ ps, ((ch.take k).map (tAt d)) = ps := ⟨_, rfl⟩
      rw [hps] at HT hfl OO ⊢
      obtain ⟨g, p, rfl, hg, hc⟩ := OC.out.2.resolve_left (by omega)
      have c1 := (BB.out.cell (p := ⟨g, p + k, none⟩) hg).trans (hc k x hxk)
      have BT := Lib.hid (B2.out.trans (BB.out.mono B2.out.size))
      have XX := Lib.hid (X2.out.below BB.out)
      have CTX := Lib.hid (implTextAt _ d x wr hin.1 hin.2 HK.out (HV0.out.below BT.out) (HG0.out.below BT.out))
      obtain ⟨T, hTT⟩ : ∃ T, tAt d x = T := ⟨_, rfl⟩
      rw [hTT] at CTX HT
      have x0 := XX.out.at 0 _ rfl
      have x1 := XX.out.at 1 _ rfl
      have x2 := XX.out.at 2 _ rfl
      have x3 := XX.out.at 3 _ rfl
      have x4 := XX.out.at 4 _ rfl
      have x5 := XX.out.at 5 _ rfl
      have i0 : (0 : Int) ≤ (k : Int) := by omega
      have i1' : (k : Int) < (ch.length : Int) := by omega
      have HPN := Lib.hid hfl
      clear hc hps hfl hTT hxk hg hin
      go_wp2_with (fail)
      refine CTX.out.mono ?_
      rintro e w4 ⟨rfl, b4⟩
      have B4 := Lib.hid (BB.out.trans (b4.mono BB.out.size))
      have O4 := Lib.hid (own_below OO.out b4)
      clear b4 c1 x0 x1 x2 x3 x4 x5
      go_wp2_with (first | (at_builtin; refine sc.list_app3 (by rfl) (.tmp 13) (.tmp 17) 26 (by rfl) w2.heap.size w4 9 i1 (.string { data := #[] }) 16 Tryz.underlying26 gi gz0 gz1 gz2 (by rfl) _ ps.length _ O4.out B4.out.size [.string T] 1 ?_ ?_ ?_ ?_ (by rfl) (by rfl) ?_ ?_; rfl; simp [Value.oneCell']; (unfold maxLen; have := HPN.out; omega); (have := HPN.out; omega); rfl; intro v6 w6 o6 g6; obtain ⟨a6, c6, rfl, _, _, _⟩ := own_form o6; have B6 := Lib.hid (B4.out.grown g6 B4.out.size (fun k hk => (sc.own_block_ge O4.out k hk).1))) | fail)
      go_roundw
      case rel =>
        refine ⟨k + 1, by omega, by go_num, ?_, B6⟩
        rw [HT.out]
        exact Lib.hid (by simpa using o6)
      case measure => simp [intOf]; omega
    · obtain rfl : k = ch.length := by omega
      have HE := Lib.hid (show texts d = (ch.take ch.length).map (tAt d) by rw [HRD.out, List.take_of_length_le (Nat.le_refl _)])
      obtain ⟨ps, hps⟩ : ∃ ps, ((ch.take ch.length).map (tAt d)) = ps := ⟨_, rfl⟩
      rw [hps] at HE OO ⊢
      clear hps
      go_wp2
      go_ret
      rw [HE.out]
      exact ⟨_, rfl, own_base OO.out (by have := B2.out.size; omega), B2.out.trans (BB.out.mono B2.out.size)⟩

set_option maxHeartbeats 4000000 in
theorem implRowOf' (v : Value) (d : D) (w : World) (hk : okD d) (hv : IsDisk w v d) (hg : GT w) :
    Calls Tryz.prog 14 #[v] w fun e w' => ∃ u, e = .returned u ∧ w'.ownsRow w.heap.size 9 1 u (rowOf d).length ((rowOf d).map Value.string) ∧ Below w.heap.size w w' := by
  obtain ⟨i1, gi, gz0, gz1, gz2⟩ := info_parts strs.Tryz.infoStr
  obtain ⟨aN, aE, aO, aS, nN, cN, nE, cE, nO, cO, nS, cS, rfl, h1, h2, h3, h4⟩ := hv
  have bw := (Below.refl w.heap.size w).alloc (Nat.le_refl _) (.cells #[.slice aN nN cN, .slice aE nE cE, .slice aO nO cO, .slice aS nS cS, .int .i64 d.room, .int .i64 d.next] 28)
  have bx := sc.Box.new w #[.slice aN nN cN, .slice aE nE cE, .slice aO nO cO, .slice aS nS cS, .int .i64 d.room, .int .i64 d.next] 28
  obtain ⟨W, hW⟩ : ∃ W, W = w.alloc (.cells #[.slice aN nN cN, .slice aE nE cE, .slice aO nO cO, .slice aS nS cS, .int .i64 d.room, .int .i64 d.next] 28) := ⟨_, rfl⟩
  rw [← hW] at bw bx
  have HV : Hid (IsDisk W (.agg #[.slice aN nN cN, .slice aE nE cE, .slice aO nO cO, .slice aS nS cS, .int .i64 d.room, .int .i64 d.next]) d) := Lib.hid ⟨aN, aE, aO, aS, nN, cN, nE, cE, nO, cO, nS, cS, rfl, h1.below bw, h2.below bw, h3.below bw, h4.below bw⟩
  have B0 := Lib.hid bw
  have X0 := Lib.hid bx
  have HG := Lib.hid (hg.below bw)
  have HK := Lib.hid hk
  have HV0 : Hid (IsDisk w (.agg #[.slice aN nN cN, .slice aE nE cE, .slice aO nO cO, .slice aS nS cS, .int .i64 d.room, .int .i64 d.next]) d) := Lib.hid ⟨aN, aE, aO, aS, nN, cN, nE, cE, nO, cO, nS, cS, rfl, h1, h2, h3, h4⟩
  have HG0 := Lib.hid hg
  clear h1 h2 h3 h4 bw bx hg
  have CC0 := implTexts _ d W hk HV.out HG.out
  have hcl : (texts d).length ≤ 16 := by unfold texts; rw [List.length_map]; exact chain_length d
  have HTS := Lib.hid (texts_small hk.2)
  have HRD := Lib.hid (row_texts d)
  obtain ⟨ts, hts⟩ : ∃ ts, texts d = ts := ⟨_, rfl⟩
  rw [hts] at CC0 hcl HTS HRD
  clear hk hts
  have CC := Lib.hid CC0
  clear CC0
  have x0 := X0.out.at 0 _ rfl
  have x1 := X0.out.at 1 _ rfl
  have x2 := X0.out.at 2 _ rfl
  have x3 := X0.out.at 3 _ rfl
  have x4 := X0.out.at 4 _ rfl
  have x5 := X0.out.at 5 _ rfl
  rw [hW] at x0 x1 x2 x3 x4 x5
  go_enter Tryz.func14, Tryz.ntmps14
  go_wp2_with (fail)
  rw [← hW]
  clear hW x0 x1 x2 x3 x4 x5
  refine CC.out.mono ?_
  rintro e w2 ⟨u2, rfl, o2, b2⟩
  obtain ⟨aC, cC, rfl, _, _, _⟩ := own_form o2
  have B2 := Lib.hid (B0.out.trans (b2.mono B0.out.size))
  have OC := Lib.hid (strs.At.of_own o2)
  have O2 := Lib.hid (World.ownsRow_nil w2 w2.heap.size 9 1)
  have BR := Lib.hid (Below.refl w2.heap.size w2)
  clear b2 o2 CC
  go_wp2
  go_loopw [3, 5, 9] (fun o _ i wr => ∃ k : Nat, k ≤ ts.length ∧ i = .int .i64 k ∧ Hid (wr.ownsRow w2.heap.size 9 1 o ((ts.take k).flatMap sc.recs).length (((ts.take k).flatMap sc.recs).map Value.string)) ∧ Hid (Below w2.heap.size w2 wr)) (fun _ _ i _ => ts.length - (intOf i).toNat)
  case atStart => exact ⟨0, Nat.zero_le _, rfl, O2, BR⟩
  case round =>
    obtain ⟨k, hk', rfl, OO, BB⟩ := hrel
    obtain ⟨a, c, rfl, _, _, _⟩ := own_form OO.out
    by_cases hlt : k < ts.length
    · obtain ⟨x, hxk⟩ : ∃ x, ts[k]? = some x := ⟨_, List.getElem?_eq_getElem hlt⟩
      have hT := HTS.out x (List.mem_of_getElem? hxk)
      have HT := Lib.hid (flat_take sc.recs hxk)
      have hfl := recs_total (l := ts.take k) (fun t ht => HTS.out t (List.mem_of_mem_take ht))
      have hkl : (ts.take k).length = k := by rw [List.length_take]; omega
      rw [hkl] at hfl
      obtain ⟨ps, hps⟩ : ∃ ps, ((ts.take k).flatMap sc.recs) = ps := ⟨_, rfl⟩
      rw [hps] at HT hfl OO ⊢
      obtain ⟨g, p, rfl, hg, hc⟩ := OC.out.2.resolve_left (by omega)
      have c1 := (BB.out.cell (p := ⟨g, p + k, none⟩) hg).trans (hc k x hxk)
      have hrl := recs_le x
      have CRX := Lib.hid (implRecords x wr hT)
      obtain ⟨rs, hrs⟩ : ∃ rs, sc.recs x = rs := ⟨_, rfl⟩
      rw [hrs] at HT hrl CRX
      have i0 : (0 : Int) ≤ (k : Int) := by omega
      have i1' : (k : Int) < (ts.length : Int) := by omega
      have HPN := Lib.hid (show ps.length ≤ 16777216 by omega)
      have HRL := Lib.hid (show rs.length ≤ 1048576 by omega)
      clear hc hps hfl hkl hrs hxk hg hrl hT
      go_wp2_with (fail)
      refine CRX.out.mono ?_
      rintro e w5 ⟨⟨v5, rfl, o5⟩, b5⟩
      obtain ⟨a5, c5, rfl, _, _, _⟩ := own_form o5
      have A5 := Lib.hid (at_cells (strs.At.of_own o5))
      have B5 := Lib.hid (BB.out.trans (b5.mono BB.out.size))
      have O5 := Lib.hid (own_below OO.out b5)
      clear b5 o5 c1
      go_wp2_with (first | (at_builtin; refine list_copy (by rfl) (.tmp 13) (.tmp 15) 26 (by rfl) w2.heap.size 9 i1 (.string { data := #[] }) 1 16 Tryz.underlying26 gi gz0 gz1 gz2 (by rfl) (by decide) _ ps.length _ O5.out B5.out.size a5 rs.length c5 _ A5.out (oneS rs) ?_ ?_ (by rfl) (by rfl) ?_; (unfold maxLen; have := HPN.out; have := HRL.out; omega); (have := HPN.out; have := HRL.out; omega); intro v6 w6 o6 g6; obtain ⟨a6, c6, rfl, _, _, _⟩ := own_form o6; have B6 := Lib.hid (B5.out.grown g6 B5.out.size (fun k hk => (sc.own_block_ge O5.out k hk).1))) | fail)
      go_roundw
      case rel =>
        refine ⟨k + 1, by omega, by go_num, ?_, B6⟩
        rw [HT.out]
        exact Lib.hid (by simpa using o6)
      case measure => simp [intOf]; omega
    · obtain rfl : k = ts.length := by omega
      have HE := Lib.hid (show rowOf d = (ts.take ts.length).flatMap sc.recs by rw [HRD.out, List.take_of_length_le (Nat.le_refl _)])
      obtain ⟨ps, hps⟩ : ∃ ps, ((ts.take ts.length).flatMap sc.recs) = ps := ⟨_, rfl⟩
      rw [hps] at HE OO ⊢
      clear hps
      go_wp2
      go_ret
      rw [HE.out]
      exact ⟨_, rfl, own_base OO.out (by have := B2.out.size; omega), B2.out.trans (BB.out.mono B2.out.size)⟩

set_option maxHeartbeats 1000000 in
theorem implLinkMany (a : Option Addr) (c n : Nat) (xs : List ByteArray) (w : World) (hn : n ≤ 16777216) (hx : ∀ x ∈ xs, x.size ≤ 1048576) (ha : strs.At w a n xs) :
    Calls Tryz.prog 81 #[.slice a n c] w fun e w' => e = .returned (.int .i64 ((lkL 0 xs : Nat) : Int)) ∧ Below w.heap.size w w' := by
  have HL := Lib.hid ha.1
  have HA := Lib.hid ha
  have HX := Lib.hid hx
  clear ha hx
  go_enter Tryz.func81, Tryz.ntmps81
  go_wp2
  go_loopw [3, 5, 8] (fun z _ i wr => ∃ (k m : Nat), k ≤ n ∧ i = .int .i64 k ∧ z = .int .i64 m ∧ Hid (lkL 0 (xs.take k) = m) ∧ Below w.heap.size w wr) (fun _ _ i _ => n - (intOf i).toNat)
  case atStart => exact ⟨0, 0, Nat.zero_le _, rfl, rfl, Lib.hid rfl, Below.refl _ _⟩
  case round =>
    obtain ⟨k, m, hk, rfl, rfl, hz, hb⟩ := hrel
    by_cases hlt : k < n
    · obtain ⟨x, hxk⟩ : ∃ x, xs[k]? = some x := ⟨_, List.getElem?_eq_getElem (by rw [HL.out]; exact hlt)⟩
      obtain ⟨g, o, rfl, hg, hc⟩ := HA.out.2.resolve_left (by omega)
      have c1 : wr.cell? ⟨g, o + k, none⟩ = some (.string x) := (hb.cell (p := ⟨g, o + k, none⟩) hg).trans (hc k x hxk)
      have HS := Lib.hid (show lkL 0 (xs.take (k + 1)) = lkM (m : Int) x by rw [lkL_next hxk, hz.out])
      have CM := Lib.hid (implLinkMore (m : Int) x wr (HX.out x (List.mem_of_getElem? hxk)))
      have i0 : (0 : Int) ≤ (k : Int) := by omega
      have i1 : (k : Int) < (n : Int) := by omega
      have HB := Lib.hid hb
      clear hc hxk hz hb
      go_wp2_with (fail)
      refine CM.out.mono ?_
      rintro e w1 ⟨rfl, hb1⟩
      go_wp2
      go_roundw
      case rel => exact ⟨k + 1, _, by omega, by go_num, rfl, Lib.hid HS.out, HB.out.trans (hb1.mono HB.out.size)⟩
      case measure => simp [intOf]; omega
    · obtain rfl : k = n := by omega
      have HE := Lib.hid (show lkL 0 xs = m by have h := hz.out; rw [List.take_of_length_le (by rw [HL.out]; exact Nat.le_refl _)] at h; exact h)
      clear hz
      go_wp2
      go_ret
      exact ⟨by rw [HE.out]; rfl, hb⟩

set_option maxHeartbeats 1000000 in
theorem implRowLink' (v : Value) (d : D) (w : World) (hk : okD d) (hv : IsDisk w v d) (hg : GT w) :
    Calls Tryz.prog 32 #[v] w fun e w' => e = .returned (.int .i64 ((rowLink d : Nat) : Int)) ∧ Below w.heap.size w w' := by
  obtain ⟨aN, aE, aO, aS, nN, cN, nE, cE, nO, cO, nS, cS, rfl, h1, h2, h3, h4⟩ := hv
  have bw := (Below.refl w.heap.size w).alloc (Nat.le_refl _) (.cells #[.slice aN nN cN, .slice aE nE cE, .slice aO nO cO, .slice aS nS cS, .int .i64 d.room, .int .i64 d.next] 28)
  have bx := sc.Box.new w #[.slice aN nN cN, .slice aE nE cE, .slice aO nO cO, .slice aS nS cS, .int .i64 d.room, .int .i64 d.next] 28
  obtain ⟨W, hW⟩ : ∃ W, W = w.alloc (.cells #[.slice aN nN cN, .slice aE nE cE, .slice aO nO cO, .slice aS nS cS, .int .i64 d.room, .int .i64 d.next] 28) := ⟨_, rfl⟩
  rw [← hW] at bw bx
  have HV : Hid (IsDisk W (.agg #[.slice aN nN cN, .slice aE nE cE, .slice aO nO cO, .slice aS nS cS, .int .i64 d.room, .int .i64 d.next]) d) := Lib.hid ⟨aN, aE, aO, aS, nN, cN, nE, cE, nO, cO, nS, cS, rfl, h1.below bw, h2.below bw, h3.below bw, h4.below bw⟩
  have B0 := Lib.hid bw
  have X0 := Lib.hid bx
  have HG := Lib.hid (hg.below bw)
  have HK := Lib.hid hk
  have HV0 : Hid (IsDisk w (.agg #[.slice aN nN cN, .slice aE nE cE, .slice aO nO cO, .slice aS nS cS, .int .i64 d.room, .int .i64 d.next]) d) := Lib.hid ⟨aN, aE, aO, aS, nN, cN, nE, cE, nO, cO, nS, cS, rfl, h1, h2, h3, h4⟩
  have HG0 := Lib.hid hg
  clear h1 h2 h3 h4 bw bx hg
  have CC0 := implRowOf' _ d W hk HV.out HG.out
  have hle := rowOf_le hk.2
  have HS := Lib.hid (rowOf_small d)
  have HL := Lib.hid (show rowLink d = lkL 0 (rowOf d) from rfl)
  obtain ⟨rs, hrs⟩ : ∃ rs, rowOf d = rs := ⟨_, rfl⟩
  rw [hrs] at CC0 hle HS HL
  clear hrs hk
  have CC := Lib.hid CC0
  clear CC0
  have x0 := X0.out.at 0 _ rfl
  have x1 := X0.out.at 1 _ rfl
  have x2 := X0.out.at 2 _ rfl
  have x3 := X0.out.at 3 _ rfl
  have x4 := X0.out.at 4 _ rfl
  have x5 := X0.out.at 5 _ rfl
  rw [hW] at x0 x1 x2 x3 x4 x5
  go_enter Tryz.func32, Tryz.ntmps32
  go_wp2_with (fail)
  rw [← hW]
  clear hW x0 x1 x2 x3 x4 x5
  refine CC.out.mono ?_
  rintro e w2 ⟨u2, rfl, o2, b2⟩
  obtain ⟨a2, c2, rfl, _, _, _⟩ := own_form o2
  have CL := Lib.hid (implLinkMany a2 c2 rs.length rs w2 hle (fun x hx => by have := HS.out x hx; omega) (strs.At.of_own o2))
  have B2 := Lib.hid (B0.out.trans (b2.mono B0.out.size))
  clear b2 o2
  go_wp2_with (fail)
  refine CL.out.mono ?_
  rintro e w3 ⟨rfl, b3⟩
  have B3 := Lib.hid (B2.out.trans (b3.mono B2.out.size))
  clear b3
  go_wp2
  go_ret
  rw [HL.out]
  exact ⟨rfl, B3.out⟩

end Go.Proofs.YtiehfobcbhgfkaaGreatDoor.row

namespace Go.Proofs.YtiehfobcbhgfkaaGreatDoor.row
set_option maxRecDepth 20000
open Go.RowKit Go.Sort Go.Lib
open kit sum num burst hd fr recs sc disk kd nam

theorem below_grow (w : World) (os : Array Obj) : Below w.heap.size w (Go.Sort.grow w os) := ⟨rfl, rfl, rfl, by simp, fun k hk => heap_grow_old _ _ hk⟩
theorem has_contains (l : List Int) (x : Int) : l.contains x = hasI l x := by
  unfold hasI
  induction l with
  | nil => rfl
  | cons y ys ih =>
    rw [List.contains_cons, List.any_cons, ih]
    congr 1
    exact Bool.beq_comm
theorem contains_any (a : Option Addr) (n c : Nat) (xs : List Int) (x : Int) (w : World) (hn : n ≤ 16) (h : ints.At w a n xs) :
    Calls Tryz.prog 60 #[.slice a n c, .int .i64 x] w fun e w' => e = .returned (.bool (hasI xs x)) ∧ w = w' := by
  obtain ⟨hl, h0 | ⟨g, p, rfl, hg, hc⟩⟩ := h
  · subst h0
    obtain rfl : xs = [] := List.length_eq_zero_iff.1 hl
    exact (Tryz.slices_Contains_int_empty a c x w).mono fun _ _ ⟨h1, h2⟩ => ⟨h1, h2.symm⟩
  · have h := Tryz.slices_Contains_int g p n c xs x w (by omega) (by omega) (fun j hj => by
      rw [hc j _ (List.getElem?_eq_getElem hj)]
      simp [List.getD, List.getElem?_eq_getElem hj])
    rw [List.take_of_length_le (by omega), has_contains] at h
    exact h.mono fun _ _ ⟨h1, h2⟩ => ⟨h1, h2.symm⟩

theorem gives_le (lim x : Int) (B : Nat) (W : World) (hc : W.cell? ⟨B, 0, none⟩ = some (.int .i64 lim)) :
    FnGives Tryz.prog 84 #[.pointer (some ⟨B, 0, none⟩)] #[.int .i64 x] (.bool (decide (x ≤ lim))) W := by
  show Calls Tryz.prog 84 #[.int .i64 x, .pointer (some ⟨B, 0, none⟩)] W _
  go_enter Tryz.func84, Tryz.ntmps84
  go_wp2
  all_goals (go_ret; exact ⟨by simp_all, 0, rfl⟩)
theorem pred_at (lim : Int) (B : Nat) (w : World) (hB : B < w.heap.size) (hcell : w.cell? ⟨B, 0, none⟩ = some (.int .i64 lim)) :
    PredAt Tryz.prog 84 #[.pointer (some ⟨B, 0, none⟩)] (Value.int .i64) (fun x => decide (x ≤ lim)) w :=
  fun W x hb => gives_le lim x B W ((hb.cell (p := ⟨B, 0, none⟩) hB).trans hcell)
theorem pred_over (lim : Int) (B blk off size : Nat) (w : World) (hB : B < w.heap.size) (hne : B ≠ blk) (hcell : w.cell? ⟨B, 0, none⟩ = some (.int .i64 lim)) :
    PredOver Tryz.prog 84 #[.pointer (some ⟨B, 0, none⟩)] (Value.int .i64) (fun x => decide (x ≤ lim)) blk off size w :=
  fun n os dk x _ => gives_le lim x B _ (by
    unfold sortWorld
    rw [cell?_grow _ _ _ (by show B < (putRow _ _ _ _ _).heap.size; rw [size_putRow]; exact hB), cell?_putRow_other _ _ blk off _ _ (Or.inl hne)]
    exact hcell)
theorem delete_any (lim : Int) (B Bs n : Nat) (u : Value) (xs : List Int) (w : World) (hB : B < Bs) (hcell : w.cell? ⟨B, 0, none⟩ = some (.int .i64 lim)) (hlt : B < w.heap.size) (hn : n ≤ 16) (ho : w.ownsRow Bs 3 1 u n (xs.map (Value.int .i64))) :
    Calls Tryz.prog 83 #[u, .func (.func 84) #[] #[.pointer (some ⟨B, 0, none⟩)]] w fun e w' =>
      ∃ u', e = .returned u' ∧ w'.ownsRow Bs 3 1 u' (xs.filter fun b => decide (lim < b)).length ((xs.filter fun b => decide (lim < b)).map (Value.int .i64)) ∧ Below Bs w w' := by
  have hl : xs.length = n := by simpa using ho.1
  by_cases hv : u = .slice none 0 0
  · subst hv
    obtain ⟨a', c', e', _, _, _⟩ := own_form ho
    have hn0 : n = 0 := by injection e' with _ e' _; omega
    subst hn0
    obtain rfl : xs = [] := List.length_eq_zero_iff.1 hl
    have H := Lib.hid (World.ownsRow_nil w Bs 3 1)
    clear hcell hlt hB ho e'
    go_enter Tryz.func83, Tryz.ntmps83
    go_wp2_with (first | (go_at_call 132; refine (Tryz.slices_IndexFunc_empty (α := Int) none 0 _ _).mono ?_; rintro e w' ⟨rfl, rfl⟩) | fail)
    go_ret
    exact ⟨_, rfl, H.out, Below.refl _ _⟩
  · obtain ⟨g, cap, rfl, hbg, hgl, hnc, hcm, _, hH⟩ := Lib.holds_of_ownsRow (enc := Value.int .i64) ho hv
    have eg : ∀ args w, (callFunc 84 args).run Tryz.prog w = .ok (.enter 84 args) w := enters_of Tryz.func84 (by kernel_rfl) rfl
    have h := Tryz.slices_DeleteFunc (Value.int .i64) (fun _ => rfl) (fun x => decide (x ≤ lim)) 84 #[.pointer (some ⟨B, 0, none⟩)] eg 0 Tryz.zeroValue3 g 0 cap xs.toArray w
      (pred_at lim B w hlt hcell) (pred_over lim B g 0 xs.toArray.size w hlt (by omega) hcell) hH (by simp; omega) (by simp; omega)
    have e1 : (xs.toArray.toList.filter fun x => !decide (x ≤ lim)) = xs.filter fun b => decide (lim < b) := by
      rw [List.toList_toArray]
      exact behind_is xs lim
    rw [e1] at h
    have hsz : xs.toArray.size = n := by simp; omega
    rw [hsz] at h
    refine h.mono ?_
    rintro e w' ⟨rfl, q, rfl⟩
    have hfl := List.length_filter_le (fun b => decide (lim < b)) xs
    obtain ⟨ys, hys⟩ : ∃ ys, (xs.filter fun b => decide (lim < b)) = ys := ⟨_, rfl⟩
    rw [hys] at hfl ⊢
    have hc := Lib.ownsRow_putRow (enc := Value.int .i64) (q := q) (k := ys.length) (ys := ys ++ List.replicate (n - ys.length) 0) ho (by simp; omega) (by omega)
    rw [List.take_left] at hc
    exact ⟨_, rfl, hc, Lib.below_putRow (Below.refl _ _) hbg⟩

set_option maxHeartbeats 2000000 in
theorem implBehind' (v : Value) (d : D) (base : Int) (w : World) (hk : okD d) (hv : IsDisk w v d) (hg : GT w) :
    Calls Tryz.prog 36 #[v, .int .i64 base] w fun e w' => ∃ u, e = .returned u ∧ w'.ownsRow w.heap.size 3 1 u (behind d base).length ((behind d base).map (Value.int .i64)) ∧ Below w.heap.size w w' := by
  obtain ⟨aN, aE, aO, aS, nN, cN, nE, cE, nO, cO, nS, cS, rfl, h1, h2, h3, h4⟩ := hv
  have bx := sc.Box.new w #[.slice aN nN cN, .slice aE nE cE, .slice aO nO cO, .slice aS nS cS, .int .i64 d.room, .int .i64 d.next] 28
  have b1 := (Below.refl w.heap.size w).alloc (Nat.le_refl _) (.cells #[.slice aN nN cN, .slice aE nE cE, .slice aO nO cO, .slice aS nS cS, .int .i64 d.room, .int .i64 d.next] 28)
  obtain ⟨W1, hW1⟩ : ∃ W1, W1 = w.alloc (.cells #[.slice aN nN cN, .slice aE nE cE, .slice aO nO cO, .slice aS nS cS, .int .i64 d.room, .int .i64 d.next] 28) := ⟨_, rfl⟩
  rw [← hW1] at bx b1
  have s1 : W1.heap.size = w.heap.size + 1 := by rw [hW1]; simp
  have by' := sc.Box.new W1 #[.int .i64 base] 3
  have b2 := (Below.refl W1.heap.size W1).alloc (Nat.le_refl _) (.cells #[.int .i64 base] 3)
  obtain ⟨W, hW⟩ : ∃ W, W = W1.alloc (.cells #[.int .i64 base] 3) := ⟨_, rfl⟩
  rw [← hW] at by' b2
  have s2 : W.heap.size = w.heap.size + 2 := by rw [hW]; simp [s1]
  rw [s1] at by'
  have bw : Below w.heap.size w W := b1.trans (b2.mono b1.size)
  have HV : Hid (IsDisk W (.agg #[.slice aN nN cN, .slice aE nE cE, .slice aO nO cO, .slice aS nS cS, .int .i64 d.room, .int .i64 d.next]) d) := Lib.hid ⟨aN, aE, aO, aS, nN, cN, nE, cE, nO, cO, nS, cS, rfl, h1.below bw, h2.below bw, h3.below bw, h4.below bw⟩
  have B0 := Lib.hid bw
  have X0 := Lib.hid (bx.below b2)
  have Y0 := Lib.hid by'
  have HG := Lib.hid (hg.below bw)
  have SZ := Lib.hid s2
  have hcl := chain_length d
  have HRD := Lib.hid (show behind d base = (chain d).filter (fun b => decide (base < b)) from rfl)
  have CC0 := implChain _ d W hk HV.out HG.out
  obtain ⟨ch, hch⟩ : ∃ ch, chain d = ch := ⟨_, rfl⟩
  rw [hch] at CC0 hcl HRD
  have CC := Lib.hid CC0
  clear h1 h2 h3 h4 bw bx by' b1 b2 s1 s2 hg hk hch CC0
  have x0 := X0.out.at 0 _ rfl
  have x1 := X0.out.at 1 _ rfl
  have x2 := X0.out.at 2 _ rfl
  have x3 := X0.out.at 3 _ rfl
  have x4 := X0.out.at 4 _ rfl
  have x5 := X0.out.at 5 _ rfl
  rw [hW, hW1] at x0 x1 x2 x3 x4 x5
  go_enter Tryz.func36, Tryz.ntmps36
  go_wp2_with (fail)
  rw [← hW1, ← hW]
  clear hW hW1 x0 x1 x2 x3 x4 x5
  refine CC.out.mono ?_
  rintro e w2 ⟨u2, rfl, o2, b2⟩
  have CD := Lib.hid (delete_any base (w.heap.size + 1) W.heap.size ch.length u2 ch w2 (by have := SZ.out; omega) ((Y0.out.below b2).at 0 _ rfl) (by have := SZ.out; have := b2.size; omega) hcl o2)
  have B2 := Lib.hid (B0.out.trans (b2.mono B0.out.size))
  clear b2 o2 CC
  go_wp2_with (fail)
  refine CD.out.mono ?_
  rintro e w3 ⟨u3, rfl, o3, b3⟩
  have B3 := Lib.hid (B2.out.trans (b3.mono B0.out.size))
  have O3 := Lib.hid o3
  clear b3 o3
  go_wp2
  go_ret
  rw [HRD.out]
  exact ⟨_, rfl, own_base O3.out (by have := SZ.out; omega), B3.out⟩

theorem names_at {d : D} {k : Nat} {x : ByteArray} (h : (names d.ents)[k]? = some x) : ∃ e : Ent, d.ents[k]? = some e ∧ e.1 = x := by
  unfold names at h
  rw [List.getElem?_map] at h
  cases e : d.ents[k]? with
  | none => rw [e] at h; cases h
  | some en => rw [e] at h; exact ⟨en, rfl, by simpa using h⟩
theorem name_small {d : D} (h : bulk d ≤ 1048576) {s : ByteArray} (hs : s ∈ names d.ents) : s.size ≤ 1048576 := by
  have h1 := tot_mem (ts := d.ents.map (·.1)) hs
  unfold bulk bulkE at h
  omega
theorem names_len (d : D) : (names d.ents).length = d.ents.length := by unfold names; rw [List.length_map]

set_option maxHeartbeats 4000000 in
theorem implLoose' (v : Value) (d : D) (w : World) (hk : okD d) (hv : IsDisk w v d) (hg : GW w) :
    Calls Tryz.prog 22 #[v] w fun e w' => ∃ u, e = .returned u ∧ w'.ownsRow w.heap.size 9 1 u (loose d).length ((loose d).map Value.string) ∧ Below w.heap.size w w' := by
  obtain ⟨i1, gi, gz0, gz1, gz2⟩ := info_parts strs.Tryz.infoStr
  obtain ⟨aN, aE, aO, aS, nN, cN, nE, cE, nO, cO, nS, cS, rfl, h1, h2, h3, h4⟩ := hv
  have bw := (Below.refl w.heap.size w).alloc (Nat.le_refl _) (.cells #[.slice aN nN cN, .slice aE nE cE, .slice aO nO cO, .slice aS nS cS, .int .i64 d.room, .int .i64 d.next] 28)
  have bx := sc.Box.new w #[.slice aN nN cN, .slice aE nE cE, .slice aO nO cO, .slice aS nS cS, .int .i64 d.room, .int .i64 d.next] 28
  obtain ⟨W, hW⟩ : ∃ W, W = w.alloc (.cells #[.slice aN nN cN, .slice aE nE cE, .slice aO nO cO, .slice aS nS cS, .int .i64 d.room, .int .i64 d.next] 28) := ⟨_, rfl⟩
  rw [← hW] at bw bx
  have HV : Hid (IsDisk W (.agg #[.slice aN nN cN, .slice aE nE cE, .slice aO nO cO, .slice aS nS cS, .int .i64 d.room, .int .i64 d.next]) d) := Lib.hid ⟨aN, aE, aO, aS, nN, cN, nE, cE, nO, cO, nS, cS, rfl, h1.below bw, h2.below bw, h3.below bw, h4.below bw⟩
  have B0 := Lib.hid bw
  have X0 := Lib.hid bx
  have HG := Lib.hid (hg.below bw)
  have HK := Lib.hid hk
  have HV0 : Hid (IsDisk w (.agg #[.slice aN nN cN, .slice aE nE cE, .slice aO nO cO, .slice aS nS cS, .int .i64 d.room, .int .i64 d.next]) d) := Lib.hid ⟨aN, aE, aO, aS, nN, cN, nE, cE, nO, cO, nS, cS, rfl, h1, h2, h3, h4⟩
  have HG0 := Lib.hid hg
  clear h1 h2 h3 h4 bw bx hg
  have hcl := chain_length d
  have HRD := Lib.hid (show loose d = (d.ents.filter fun e => looseB (chain d) e.1).map (·.1) from rfl)
  have CC0 := implChain _ d W hk HV.out HG.out.gt
  obtain ⟨ch, hch⟩ : ∃ ch, chain d = ch := ⟨_, rfl⟩
  rw [hch] at CC0 hcl HRD
  have hne : d.ents.length ≤ 1048576 := by
    have h := hk.2
    unfold bulk bulkE at h
    rw [List.length_map] at h
    omega
  have HNS := Lib.hid (fun s (hs : s ∈ names d.ents) => name_small hk.2 hs)
  clear hk hch
  have CC := Lib.hid CC0
  clear CC0
  have x0 := X0.out.at 0 _ rfl
  have x1 := X0.out.at 1 _ rfl
  have x2 := X0.out.at 2 _ rfl
  have x3 := X0.out.at 3 _ rfl
  have x4 := X0.out.at 4 _ rfl
  have x5 := X0.out.at 5 _ rfl
  rw [hW] at x0 x1 x2 x3 x4 x5
  go_enter Tryz.func22, Tryz.ntmps22
  go_wp2_with (fail)
  rw [← hW]
  clear hW x0 x1 x2 x3 x4 x5
  refine CC.out.mono ?_
  rintro e w2 ⟨u2, rfl, o2, b2⟩
  obtain ⟨aC, cC, rfl, _, _, _⟩ := own_form o2
  have B2 := Lib.hid (B0.out.trans (b2.mono B0.out.size))
  have X2 := Lib.hid (X0.out.below b2)
  have OC := Lib.hid (ints.At.of_own o2)
  have CF := Lib.hid (iFileNames _ d w2 HK.out (HV0.out.below B2.out))
  clear b2 o2 CC
  have x0 := X2.out.at 0 _ rfl
  have x1 := X2.out.at 1 _ rfl
  have x2 := X2.out.at 2 _ rfl
  have x3 := X2.out.at 3 _ rfl
  have x4 := X2.out.at 4 _ rfl
  have x5 := X2.out.at 5 _ rfl
  go_wp2_with (fail)
  refine CF.out.mono ?_
  rintro e w3 ⟨u3, rfl, ⟨n, o3⟩, b3⟩
  obtain ⟨aF, cF, rfl, _, _, _⟩ := own_form o3
  have B3 := Lib.hid (B2.out.trans (b3.mono B2.out.size))
  have AC := Lib.hid (OC.out.below b3)
  have AF := Lib.hid (strs.At.of_own o3)
  obtain rfl : (names d.ents).length = n := by have := o3.1; simpa using this
  have HL := Lib.hid (names_len d)
  have O3 := Lib.hid (World.ownsRow_nil w3 w3.heap.size 9 1)
  have BR := Lib.hid (Below.refl w3.heap.size w3)
  clear b3 o3 CF x0 x1 x2 x3 x4 x5
  obtain ⟨n, hn⟩ : ∃ n, (names d.ents).length = n := ⟨_, rfl⟩
  rw [hn] at HL AF ⊢
  have hn2 : n ≤ 1048576 := by have := HL.out; omega
  clear hn hne
  go_wp2
  go_loopw [4, 6, 7, 8, 14] (fun o _ _ _ i wr => ∃ k : Nat, k ≤ n ∧ i = .int .i64 k ∧ Hid (wr.ownsRow w3.heap.size 9 1 o (((d.ents.take k).filter fun e => looseB ch e.1).map (·.1)).length ((((d.ents.take k).filter fun e => looseB ch e.1).map (·.1)).map Value.string)) ∧ Hid (Below w3.heap.size w3 wr)) (fun _ _ _ _ i _ => n - (intOf i).toNat)
  case atStart => exact ⟨0, Nat.zero_le _, rfl, O3, BR⟩
  case round =>
    obtain ⟨k, hk', rfl, OO, BB⟩ := hrel
    obtain ⟨a, c, rfl, _, _, _⟩ := own_form OO.out
    by_cases hlt : k < n
    · obtain ⟨x, hxk⟩ : ∃ x, (names d.ents)[k]? = some x := ⟨_, List.getElem?_eq_getElem (by rw [AF.out.1]; exact hlt)⟩
      obtain ⟨en, hen, hex⟩ := names_at hxk
      have HT := Lib.hid (loose_take (l := ch) hen)
      rw [hex] at HT
      have hxs := HNS.out x (List.mem_of_getElem? hxk)
      have hfl : (((d.ents.take k).filter fun e => looseB ch e.1).map (·.1)).length ≤ k := by
        rw [List.length_map]
        exact Nat.le_trans (List.length_filter_le _ _) (by rw [List.length_take]; omega)
      obtain ⟨ps, hps⟩ : ∃ ps, (((d.ents.take k).filter fun e => looseB ch e.1).map (·.1)) = ps := ⟨_, rfl⟩
      rw [hps] at HT hfl OO ⊢
      obtain ⟨g, p, hga, hg, hc⟩ := AF.out.2.resolve_left (by omega)
      subst hga
      have c1 := (BB.out.cell (p := ⟨g, p + k, none⟩) hg).trans (hc k x hxk)
      have BT := Lib.hid (B3.out.trans (BB.out.mono B3.out.size))
      have CN := Lib.hid (implRead_any x wr hxs (HG0.out.below BT.out).t64 (HG0.out.below BT.out).syn)
      have HLB := Lib.hid (show looseB ch x = ((rn x).1 == 2 || ((rn x).1 == 1 && !(hasI ch (rn x).2))) from rfl)
      obtain ⟨lb, hlb⟩ : ∃ lb, looseB ch x = lb := ⟨_, rfl⟩
      rw [hlb] at HLB HT
      obtain ⟨rk, hrk⟩ : ∃ rk, (rn x).1 = rk := ⟨_, rfl⟩
      obtain ⟨rb, hrb⟩ : ∃ rb, (rn x).2 = rb := ⟨_, rfl⟩
      unfold PostR rnV at CN
      rw [hrk, hrb] at CN HLB
      have HPN := Lib.hid (show ps.length ≤ 1048576 by omega)
      have i0 : (0 : Int) ≤ (k : Int) := by omega
      have i1' : (k : Int) < (n : Int) := by omega
      clear hc hps hfl hxk hg hen hex hxs hrk hrb hlb
      go_wp2_with (fail)
      refine CN.out.mono ?_
      rintro e w4 ⟨rfl, b4⟩
      have B4 := Lib.hid (BB.out.trans (b4.mono BB.out.size))
      have O4 := Lib.hid (own_below OO.out b4)
      have CO := Lib.hid (contains_any aC ch.length cC ch rb w4 hcl (AC.out.below B4.out))
      clear b4 c1 CN OO
      by_cases h2 : rk = 2
      · subst h2
        obtain rfl : lb = true := by rw [HLB.out]; rfl
        rw [if_pos rfl] at HT
        clear CO HLB
        go_wp2_with (first | (at_builtin; refine sc.list_app3 (by rfl) (.tmp 35) (.tmp 37) 26 (by rfl) w3.heap.size w4 9 i1 (.string { data := #[] }) 16 Tryz.underlying26 gi gz0 gz1 gz2 (by rfl) _ ps.length _ O4.out B4.out.size [.string x] 1 ?_ ?_ ?_ ?_ (by rfl) (by rfl) ?_ ?_; rfl; simp [Value.oneCell']; (unfold maxLen; have := HPN.out; omega); (have := HPN.out; omega); rfl; intro v6 w6 o6 g6; obtain ⟨a6, c6, rfl, _, _, _⟩ := own_form o6; have B6 := Lib.hid (B4.out.grown g6 B4.out.size (fun k hk => (sc.own_block_ge O4.out k hk).1))) | fail)
        go_roundw
        case rel =>
          refine ⟨k + 1, by omega, by go_num, ?_, B6⟩
          rw [HT.out]
          exact Lib.hid (by simpa using o6)
        case measure => simp [intOf]; omega
      · have k2 : (rk == 2) = false := beq_eq_false_iff_ne.2 h2
        by_cases h1 : rk = 1
        · subst h1
          rw [k2] at HLB
          obtain ⟨hb, hhb⟩ : ∃ hb, hasI ch rb = hb := ⟨_, rfl⟩
          rw [hhb] at CO HLB
          clear hhb
          cases hb with
          | true =>
            obtain rfl : lb = false := HLB.out
            rw [if_neg (by decide)] at HT
            clear HLB
            go_wp2_with (first | (go_at_call 60; refine CO.out.mono ?_; rintro e w5 ⟨rfl, rfl⟩) | fail)
            go_roundw
            case rel =>
              refine ⟨k + 1, by omega, by go_num, ?_, B4⟩
              rw [HT.out, List.append_nil]
              exact O4
            case measure => simp [intOf]; omega
          | false =>
            obtain rfl : lb = true := HLB.out
            rw [if_pos rfl] at HT
            clear HLB
            go_wp2_with (first | (go_at_call 60; refine CO.out.mono ?_; rintro e w5 ⟨rfl, rfl⟩) | (at_builtin; refine sc.list_app3 (by rfl) (.tmp 35) (.tmp 37) 26 (by rfl) w3.heap.size w4 9 i1 (.string { data := #[] }) 16 Tryz.underlying26 gi gz0 gz1 gz2 (by rfl) _ ps.length _ O4.out B4.out.size [.string x] 1 ?_ ?_ ?_ ?_ (by rfl) (by rfl) ?_ ?_; rfl; simp [Value.oneCell']; (unfold maxLen; have := HPN.out; omega); (have := HPN.out; omega); rfl; intro v6 w6 o6 g6; obtain ⟨a6, c6, rfl, _, _, _⟩ := own_form o6; have B6 := Lib.hid (B4.out.grown g6 B4.out.size (fun k hk => (sc.own_block_ge O4.out k hk).1))) | fail)
            go_roundw
            case rel =>
              refine ⟨k + 1, by omega, by go_num, ?_, B6⟩
              rw [HT.out]
              exact Lib.hid (by simpa using o6)
            case measure => simp [intOf]; omega
        · have k1 : (rk == 1) = false := beq_eq_false_iff_ne.2 h1
          obtain rfl : lb = false := by rw [HLB.out, k2, k1]; rfl
          rw [if_neg (by decide)] at HT
          clear CO HLB
          go_wp2
          go_roundw
          case rel =>
            refine ⟨k + 1, by omega, by go_num, ?_, B4⟩
            rw [HT.out, List.append_nil]
            exact O4
          case measure => simp [intOf]; omega
    · obtain rfl : k = n := by omega
      have HE := Lib.hid (show loose d = ((d.ents.take k).filter fun e => looseB ch e.1).map (·.1) by rw [HRD.out, List.take_of_length_le (by rw [← HL.out]; exact Nat.le_refl _)])
      obtain ⟨ps, hps⟩ : ∃ ps, (((d.ents.take k).filter fun e => looseB ch e.1).map (·.1)) = ps := ⟨_, rfl⟩
      rw [hps] at HE OO ⊢
      clear hps
      go_wp2
      go_ret
      rw [HE.out]
      exact ⟨_, rfl, own_base OO.out (by have := B3.out.size; omega), B3.out.trans (BB.out.mono B3.out.size)⟩

/-- what the library's sort leaves of a row of one's own -/
theorem sort_any (Bs n : Nat) (u : Value) (xs : List Int) (w : World) (hn : n ≤ 1048576) (ho : w.ownsRow Bs 3 1 u n (xs.map (Value.int .i64))) :
    Calls Tryz.prog 58 #[u] w fun e w' => e = .returned (.tuple #[]) ∧ w'.ownsRow Bs 3 1 u n ((xs.mergeSort fun x y => decide (x ≤ y)).map (Value.int .i64)) ∧ Below Bs w w' := by
  have hl : xs.length = n := by simpa using ho.1
  by_cases hv : u = .slice none 0 0
  · subst hv
    obtain ⟨a', c', e', _, _, _⟩ := own_form ho
    have hn0 : n = 0 := by injection e' with _ e' _; omega
    subst hn0
    obtain rfl : xs = [] := List.length_eq_zero_iff.1 hl
    refine (Tryz.slices_Sort_int_none none 0 w).mono ?_
    rintro e w' ⟨rfl, rfl⟩
    exact ⟨rfl, by simpa using ho, Below.refl _ _⟩
  · obtain ⟨g, cap, rfl, hbg, hgl, hnc, hcm, _, hH⟩ := Lib.holds_of_ownsRow (enc := Value.int .i64) ho hv
    have h := Tryz.slices_Sort_int g 0 cap xs w hH hgl (by omega)
    rw [hl] at h
    refine h.mono ?_
    rintro e w' ⟨rfl, q, os, rfl⟩
    obtain ⟨ts, hts⟩ : ∃ ts, (xs.mergeSort fun x y => decide (x ≤ y)) = ts := ⟨_, rfl⟩
    have hl2 : ts.length = n := by rw [← hts, List.length_mergeSort]; exact hl
    rw [hts]
    have hc := Lib.ownsRow_putRow (enc := Value.int .i64) (q := q) (k := n) (ys := ts) ho hl2 (Nat.le_refl _)
    rw [List.take_of_length_le (by omega)] at hc
    have hb := Lib.below_putRow (enc := Value.int .i64) (q := q) (d := ts.toArray) (Below.refl Bs w) hbg
    have hg := below_grow (putRow (Value.int .i64) (Sort.ahead w q) g 0 ts.toArray) os
    exact ⟨rfl, own_below hc hg, hb.trans (hg.mono (by have := hb.size; omega))⟩

set_option maxHeartbeats 4000000 in
theorem implBases' (v : Value) (d : D) (w : World) (hk : okD d) (hv : IsDisk w v d) (hg : GW w) :
    Calls Tryz.prog 20 #[v] w fun e w' => ∃ u, e = .returned u ∧ w'.ownsRow w.heap.size 3 1 u (bases d.ents).length ((bases d.ents).map (Value.int .i64)) ∧ Below w.heap.size w w' := by
  obtain ⟨i1, gi, gz0, gz1, gz2⟩ := info_parts ints.Tryz.infoInt
  obtain ⟨aN, aE, aO, aS, nN, cN, nE, cE, nO, cO, nS, cS, rfl, h1, h2, h3, h4⟩ := hv
  have bw := (Below.refl w.heap.size w).alloc (Nat.le_refl _) (.cells #[.slice aN nN cN, .slice aE nE cE, .slice aO nO cO, .slice aS nS cS, .int .i64 d.room, .int .i64 d.next] 28)
  have bx := sc.Box.new w #[.slice aN nN cN, .slice aE nE cE, .slice aO nO cO, .slice aS nS cS, .int .i64 d.room, .int .i64 d.next] 28
  obtain ⟨W, hW⟩ : ∃ W, W = w.alloc (.cells #[.slice aN nN cN, .slice aE nE cE, .slice aO nO cO, .slice aS nS cS, .int .i64 d.room, .int .i64 d.next] 28) := ⟨_, rfl⟩
  rw [← hW] at bw bx
  have HV : Hid (IsDisk W (.agg #[.slice aN nN cN, .slice aE nE cE, .slice aO nO cO, .slice aS nS cS, .int .i64 d.room, .int .i64 d.next]) d) := Lib.hid ⟨aN, aE, aO, aS, nN, cN, nE, cE, nO, cO, nS, cS, rfl, h1.below bw, h2.below bw, h3.below bw, h4.below bw⟩
  have B0 := Lib.hid bw
  have X0 := Lib.hid bx
  have HG := Lib.hid (hg.below bw)
  have HK := Lib.hid hk
  have HV0 : Hid (IsDisk w (.agg #[.slice aN nN cN, .slice aE nE cE, .slice aO nO cO, .slice aS nS cS, .int .i64 d.room, .int .i64 d.next]) d) := Lib.hid ⟨aN, aE, aO, aS, nN, cN, nE, cE, nO, cO, nS, cS, rfl, h1, h2, h3, h4⟩
  have HG0 := Lib.hid hg
  clear h1 h2 h3 h4 bw bx hg
  have HRD := Lib.hid (sort_bases d.ents)
  have CC0 := iFileNames _ d W hk HV.out
  have hne : d.ents.length ≤ 1048576 := by
    have h := hk.2
    unfold bulk bulkE at h
    rw [List.length_map] at h
    omega
  have HNS := Lib.hid (fun s (hs : s ∈ names d.ents) => name_small hk.2 hs)
  clear hk
  have CC := Lib.hid CC0
  clear CC0
  have x0 := X0.out.at 0 _ rfl
  have x1 := X0.out.at 1 _ rfl
  have x2 := X0.out.at 2 _ rfl
  have x3 := X0.out.at 3 _ rfl
  have x4 := X0.out.at 4 _ rfl
  have x5 := X0.out.at 5 _ rfl
  rw [hW] at x0 x1 x2 x3 x4 x5
  go_enter Tryz.func20, Tryz.ntmps20
  go_wp2_with (fail)
  rw [← hW]
  clear hW x0 x1 x2 x3 x4 x5
  refine CC.out.mono ?_
  rintro e w3 ⟨u3, rfl, ⟨n, o3⟩, b3⟩
  obtain ⟨aF, cF, rfl, _, _, _⟩ := own_form o3
  have B3 := Lib.hid (B0.out.trans (b3.mono B0.out.size))
  have AF := Lib.hid (strs.At.of_own o3)
  obtain rfl : (names d.ents).length = n := by have := o3.1; simpa using this
  have HL := Lib.hid (names_len d)
  have O3 := Lib.hid (World.ownsRow_nil w3 w3.heap.size 3 1)
  have BR := Lib.hid (Below.refl w3.heap.size w3)
  clear b3 o3 CC
  obtain ⟨n, hn⟩ : ∃ n, (names d.ents).length = n := ⟨_, rfl⟩
  rw [hn] at HL AF ⊢
  have hn2 : n ≤ 1048576 := by have := HL.out; omega
  clear hn hne
  go_wp2
  go_loopw [3, 5, 6, 7, 11] (fun o _ _ _ i wr => ∃ k : Nat, k ≤ n ∧ i = .int .i64 k ∧ Hid (wr.ownsRow w3.heap.size 3 1 o (basesOf (d.ents.take k)).length ((basesOf (d.ents.take k)).map (Value.int .i64))) ∧ Hid (Below w3.heap.size w3 wr)) (fun _ _ _ _ i _ => n - (intOf i).toNat)
  case atStart => exact ⟨0, Nat.zero_le _, rfl, O3, BR⟩
  case round =>
    obtain ⟨k, hk', rfl, OO, BB⟩ := hrel
    obtain ⟨a, c, rfl, _, _, _⟩ := own_form OO.out
    have hfl : (basesOf (d.ents.take k)).length ≤ k := Nat.le_trans (basesOf_le _) (by rw [List.length_take]; omega)
    by_cases hlt : k < n
    · obtain ⟨x, hxk⟩ : ∃ x, (names d.ents)[k]? = some x := ⟨_, List.getElem?_eq_getElem (by rw [AF.out.1]; exact hlt)⟩
      obtain ⟨en, hen, hex⟩ := names_at hxk
      have HT := Lib.hid (basesOf_take hen)
      rw [hex] at HT
      have hxs := HNS.out x (List.mem_of_getElem? hxk)
      obtain ⟨ps, hps⟩ : ∃ ps, basesOf (d.ents.take k) = ps := ⟨_, rfl⟩
      rw [hps] at HT hfl OO ⊢
      obtain ⟨g, p, hga, hg, hc⟩ := AF.out.2.resolve_left (by omega)
      subst hga
      have c1 := (BB.out.cell (p := ⟨g, p + k, none⟩) hg).trans (hc k x hxk)
      have BT := Lib.hid (B3.out.trans (BB.out.mono B3.out.size))
      have CN := Lib.hid (implRead_any x wr hxs (HG0.out.below BT.out).t64 (HG0.out.below BT.out).syn)
      obtain ⟨rk, hrk⟩ : ∃ rk, (rn x).1 = rk := ⟨_, rfl⟩
      obtain ⟨rb, hrb⟩ : ∃ rb, (rn x).2 = rb := ⟨_, rfl⟩
      unfold PostR rnV at CN
      rw [hrk, hrb] at CN HT
      have HPN := Lib.hid (show ps.length ≤ 1048576 by omega)
      have i0 : (0 : Int) ≤ (k : Int) := by omega
      have i1' : (k : Int) < (n : Int) := by omega
      clear hc hps hfl hxk hg hen hex hxs hrk hrb
      go_wp2_with (fail)
      refine CN.out.mono ?_
      rintro e w4 ⟨rfl, b4⟩
      have B4 := Lib.hid (BB.out.trans (b4.mono BB.out.size))
      have O4 := Lib.hid (own_below OO.out b4)
      clear b4 c1 CN OO
      by_cases h1 : rk = 1
      · subst h1
        rw [if_pos rfl] at HT
        go_wp2_with (first | (at_builtin; refine sc.list_app3 (by rfl) (.tmp 22) (.tmp 24) 31 (by rfl) w3.heap.size w4 3 i1 (.int .i64 0) 8 Tryz.underlying31 gi gz0 gz1 gz2 (by rfl) _ ps.length _ O4.out B4.out.size [.int .i64 rb] 1 ?_ ?_ ?_ ?_ (by rfl) (by rfl) ?_ ?_; rfl; simp [Value.oneCell']; (unfold maxLen; have := HPN.out; omega); (have := HPN.out; omega); rfl; intro v6 w6 o6 g6; obtain ⟨a6, c6, rfl, _, _, _⟩ := own_form o6; have B6 := Lib.hid (B4.out.grown g6 B4.out.size (fun k hk => (sc.own_block_ge O4.out k hk).1))) | fail)
        go_roundw
        case rel =>
          refine ⟨k + 1, by omega, by go_num, ?_, B6⟩
          rw [HT.out]
          exact Lib.hid (by simpa using o6)
        case measure => simp [intOf]; omega
      · have k1 : (rk == 1) = false := beq_eq_false_iff_ne.2 h1
        rw [if_neg h1] at HT
        go_wp2
        go_roundw
        case rel =>
          refine ⟨k + 1, by omega, by go_num, ?_, B4⟩
          rw [HT.out, List.append_nil]
          exact O4
        case measure => simp [intOf]; omega
    · obtain rfl : k = n := by omega
      have HE := Lib.hid (show basesOf (d.ents.take k) = basesOf d.ents by rw [List.take_of_length_le (by rw [← HL.out]; exact Nat.le_refl _)])
      rw [HE.out] at OO hfl ⊢
      have CS := Lib.hid (sort_any w3.heap.size _ _ (basesOf d.ents) wr (by omega) OO.out)
      rw [HRD.out] at CS
      have hln : (bases d.ents).length = (basesOf d.ents).length := by rw [← HRD.out, List.length_mergeSort]
      have HLN := Lib.hid hln
      obtain ⟨m, hm⟩ : ∃ m, (basesOf d.ents).length = m := ⟨_, rfl⟩
      rw [hm] at CS HLN ⊢
      clear hln hfl OO
      go_wp2_with (fail)
      refine CS.out.mono ?_
      rintro e w5 ⟨rfl, o5, b5⟩
      have O5 := Lib.hid o5
      have B5 := Lib.hid (BB.out.trans (b5.mono (Nat.le_refl _)))
      clear o5 b5
      go_wp2
      go_ret
      rw [HLN.out]
      exact ⟨_, rfl, own_base O5.out (by have := B3.out.size; omega), B3.out.trans (B5.out.mono B3.out.size)⟩

end Go.Proofs.YtiehfobcbhgfkaaGreatDoor.row
