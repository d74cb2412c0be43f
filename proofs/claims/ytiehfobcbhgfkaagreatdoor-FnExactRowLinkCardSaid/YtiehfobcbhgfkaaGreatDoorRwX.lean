/-
  Contracts of the spec's functions on rows of files: TextAt, Chain.
-/
import Derived.Test.YtiehfobcbhgfkaaGreatDoorRwMG
import Derived.Test.YtiehfobcbhgfkaaGreatDoorDkX
import Derived.Test.YtiehfobcbhgfkaaGreatDoorNameX
import Derived.Test.YtiehfobcbhgfkaaGreatDoorLater
import Derived.BigQuiet
import Derived.Test.YtiehfobcbhgfkaaGreatDoorAppX
import Derived.Test.YtiehfobcbhgfkaaGreatDoorDqY
import Derived.Test.YtiehfobcbhgfkaaGreatDoorHdL
namespace Go.Proofs.YtiehfobcbhgfkaaGreatDoor.row
set_option maxRecDepth 20000
open Go.RowKit
open kit sum num burst hd fr recs sc disk kd nam

set_option maxHeartbeats 1000000 in
theorem specTextAt (v : Value) (d : D) (base : Int) (w : World) (hk : okD d) (hv : IsDisk w v d) :
    Calls Tryz.prog 54 #[v, .int .i64 base] w fun e w' => e = .returned (.string (tAt d base)) ∧ Below w.heap.size w w' := by
  obtain ⟨aN, aE, aO, aS, nN, cN, nE, cE, nO, cO, nS, cS, rfl, h1, h2, h3, h4⟩ := hv
  have bw := (Below.refl w.heap.size w).alloc (Nat.le_refl _) (.cells #[.slice aN nN cN, .slice aE nE cE, .slice aO nO cO, .slice aS nS cS, .int .i64 d.room, .int .i64 d.next] 28)
  have bx := sc.Box.new w #[.slice aN nN cN, .slice aE nE cE, .slice aO nO cO, .slice aS nS cS, .int .i64 d.room, .int .i64 d.next] 28
  obtain ⟨W, hW⟩ : ∃ W, W = w.alloc (.cells #[.slice aN nN cN, .slice aE nE cE, .slice aO nO cO, .slice aS nS cS, .int .i64 d.room, .int .i64 d.next] 28) := ⟨_, rfl⟩
  rw [← hW] at bw bx
  have HV : Hid (IsDisk W (.agg #[.slice aN nN cN, .slice aE nE cE, .slice aO nO cO, .slice aS nS cS, .int .i64 d.room, .int .i64 d.next]) d) := Lib.hid ⟨aN, aE, aO, aS, nN, cN, nE, cE, nO, cO, nS, cS, rfl, h1.below bw, h2.below bw, h3.below bw, h4.below bw⟩
  have B0 := Lib.hid bw
  have X0 := Lib.hid bx
  clear h1 h2 h3 h4 bw bx
  have CN := Lib.hid (fun (x : Later W) => specSeg_any base x.val)
  have CR := Lib.hid (fun (x : Later W) => sReadFile _ d (segI base) x.val hk (HV.out.below x.2))
  have HT := Lib.hid (show tAt d base = textR (nodeAt d (segI base)) from rfl)
  obtain ⟨T, hT⟩ : ∃ T, tAt d base = T := ⟨_, rfl⟩
  rw [hT] at HT ⊢
  rw [← HT.out] at CR
  obtain ⟨k, hk'⟩ : ∃ k, (nodeAt d (segI base)).isSome = k := ⟨_, rfl⟩
  rw [hk'] at CR
  obtain ⟨s, hs⟩ : ∃ s, segI base = s := ⟨_, rfl⟩
  rw [hs] at CN CR
  clear hs hk' hT
  go_enter Tryz.func54, Tryz.ntmps54
  go_wp2
  rw [← hW]
  clear hW
  have y0 := Later.cell (X0.out.at 0 _ rfl) X0.out.lt
  have y1 := Later.cell (X0.out.at 1 _ rfl) X0.out.lt
  have y2 := Later.cell (X0.out.at 2 _ rfl) X0.out.lt
  have y3 := Later.cell (X0.out.at 3 _ rfl) X0.out.lt
  have y4 := Later.cell (X0.out.at 4 _ rfl) X0.out.lt
  have y5 := Later.cell (X0.out.at 5 _ rfl) X0.out.lt
  refine wp_region_later (by kernel_rfl) (by kernel_rfl) ?_
  repeat (first | go_big_quiet_skip | (go_big_quiet_want; go_big_quiet_op; go_big_quiet_on))
  go_big_quiet_want
  go_big_quiet_op
  apply Exists.intro
  refine ⟨fun x => ?_, ?_⟩
  · go_at_call 104
    exact Calls.later (CN.out x)
  go_big_quiet_on
  repeat (first | go_big_quiet_skip | (go_big_quiet_want; go_big_quiet_op; go_big_quiet_on))
  go_big_quiet_want
  go_big_quiet_op
  apply Exists.intro
  refine ⟨fun x => ?_, ?_⟩
  · go_at_call 103
    exact Calls.later (CR.out x)
  go_big_quiet_on
  repeat (first | go_big_quiet_skip | (go_big_quiet_want; go_big_quiet_op; go_big_quiet_on))
  refine wpQuiet_nil ?_
  rintro w2 ⟨x2, hx2⟩
  have hb2 : Below W.heap.size W w2 := hx2 ▸ x2.2
  clear hx2 x2
  clear y0 y1 y2 y3 y4 y5
  go_wp2
  go_ret
  exact ⟨rfl, B0.out.trans (hb2.mono B0.out.size)⟩

set_option maxHeartbeats 2000000 in
theorem specChain (v : Value) (d : D) (w : World) (hk : okD d) (hv : IsDisk w v d) :
    Calls Tryz.prog 19 #[v] w fun e w' => ∃ u, e = .returned u ∧ w'.ownsRow w.heap.size 3 1 u (chain d).length ((chain d).map (Value.int .i64)) ∧ Below w.heap.size w w' := by
  obtain ⟨i1, gi, gz0, gz1, gz2⟩ := info_parts ints.Tryz.infoInt
  obtain ⟨aN, aE, aO, aS, nN, cN, nE, cE, nO, cO, nS, cS, rfl, h1, h2, h3, h4⟩ := hv
  have bw := (Below.refl w.heap.size w).alloc (Nat.le_refl _) (.cells #[.slice aN nN cN, .slice aE nE cE, .slice aO nO cO, .slice aS nS cS, .int .i64 d.room, .int .i64 d.next] 28)
  have bx := sc.Box.new w #[.slice aN nN cN, .slice aE nE cE, .slice aO nO cO, .slice aS nS cS, .int .i64 d.room, .int .i64 d.next] 28
  obtain ⟨W, hW⟩ : ∃ W, W = w.alloc (.cells #[.slice aN nN cN, .slice aE nE cE, .slice aO nO cO, .slice aS nS cS, .int .i64 d.room, .int .i64 d.next] 28) := ⟨_, rfl⟩
  rw [← hW] at bw bx
  have HV : Hid (IsDisk W (.agg #[.slice aN nN cN, .slice aE nE cE, .slice aO nO cO, .slice aS nS cS, .int .i64 d.room, .int .i64 d.next]) d) := Lib.hid ⟨aN, aE, aO, aS, nN, cN, nE, cE, nO, cO, nS, cS, rfl, h1.below bw, h2.below bw, h3.below bw, h4.below bw⟩
  have B0 := Lib.hid bw
  have X0 := Lib.hid bx
  clear h1 h2 h3 h4 bw bx
  have HF := Lib.hid (Far.start d)
  have HB := Lib.hid hk.2
  have HK := Lib.hid hk
  have sz : W.heap.size = w.heap.size + 1 := by rw [hW]; simp
  have O1 := World.ownsRow_made (base := W.heap.size) (e := 3) (size := 1) W #[] 0 (Nat.le_refl _) (by decide) rfl
  rw [sz] at O1
  rw [← sz] at O1
  have O1 := Lib.hid O1
  have B1 := Lib.hid ((Below.refl W.heap.size W).alloc (Nat.le_refl _) (.cells #[] 3))
  have SZ := Lib.hid sz
  clear sz
  go_enter Tryz.func19, Tryz.ntmps19
  go_wp2
  rw [← hW, ← SZ.out]
  clear hW
  go_loopw [3, 4, 5, 6, 7] (fun o bs l _ _ wr => ∃ (xs : List Int) (base link : Int), bs = .int .i64 base ∧ l = .int .i64 link ∧ Hid (Far d xs base link) ∧ Hid (wr.ownsRow W.heap.size 3 1 o xs.length (xs.map (Value.int .i64))) ∧ Hid (Below W.heap.size W wr)) (fun o _ _ _ _ _ => match o with | .slice _ n _ => 16 - n | _ => 0)
  case atStart => exact ⟨[], 0, 0, rfl, rfl, HF, O1, B1⟩
  case round =>
    obtain ⟨xs, base, link, rfl, rfl, FF, OO, BB⟩ := hrel
    obtain ⟨a, c, rfl, _, _, _⟩ := own_form OO.out
    have hlen := FF.out.len
    by_cases hlt : xs.length < 16
    · have V1 := Lib.hid (HV.out.below BB.out)
      have X1 := Lib.hid (X0.out.below BB.out)
      have hT := tAt_le HB.out base
      have CT := Lib.hid (specTextAt _ d base wr HK.out V1.out)
      have hgo : goOnB d base link = (!(decide ((sc.recs (tAt d base)).length = 0)) && goesB (tAt d base) base link) := rfl
      have FN := Lib.hid (fun h => FF.out.next HB.out hlt h)
      have FS := Lib.hid (fun h => FF.out.stop h)
      have hrl := recs_few HB.out base
      have lo := FF.out.lo
      have hi' := FF.out.hi
      obtain ⟨T, hTT⟩ : ∃ T, tAt d base = T := ⟨_, rfl⟩
      rw [hTT] at hT CT hgo FN hrl
      have CA := Lib.hid (fun w => specRecords T w hT)
      have CG := Lib.hid (fun w => specGoes T base link w hT)
      have CL := Lib.hid (fun w => specLinkAfter T w hT)
      obtain ⟨n, hn⟩ : ∃ n, (sc.recs T).length = n := ⟨_, rfl⟩
      rw [hn] at CA hgo FN hrl
      obtain ⟨gb, hgb⟩ : ∃ gb, goesB T base link = gb := ⟨_, rfl⟩
      rw [hgb] at CG hgo
      obtain ⟨ln, hln⟩ : ∃ ln, linkN T = ln := ⟨_, rfl⟩
      rw [hln] at CL FN
      have HGO := Lib.hid hgo
      have i0 : (xs.length : Int) < 16 := by omega
      have x0 := X1.out.at 0 _ rfl
      have x1 := X1.out.at 1 _ rfl
      have x2 := X1.out.at 2 _ rfl
      have x3 := X1.out.at 3 _ rfl
      have x4 := X1.out.at 4 _ rfl
      have x5 := X1.out.at 5 _ rfl
      clear hTT hn hgb hln hgo FF
      go_wp2_with (fail)
      refine CT.out.mono ?_
      rintro e w2 ⟨rfl, b2⟩
      have B2 := Lib.hid (BB.out.trans (b2.mono BB.out.size))
      have O2 := Lib.hid (own_below OO.out b2)
      clear b2 x0 x1 x2 x3 x4 x5 OO
      go_wp2_with (fail)
      refine (CA.out _).mono ?_
      rintro e w3 ⟨⟨v3, rfl, o3⟩, b3⟩
      obtain ⟨a3, c3, rfl, _, _, _⟩ := own_form o3
      have B3 := Lib.hid (B2.out.trans (b3.mono B2.out.size))
      have O3 := Lib.hid (own_below O2.out b3)
      clear b3 O2 o3
      by_cases hn0 : n = 0
      · subst hn0
        have HS := Lib.hid (FS.out (by rw [HGO.out]; rfl))
        go_wp2
        go_ret
        rw [HS.out]
        exact ⟨_, rfl, own_base O3.out (by have := B0.out.size; omega), B0.out.trans (B3.out.mono B0.out.size)⟩
      · have n0 : ((n : Int) == 0) = false := by rw [beq_eq_false_iff_ne]; omega
        go_wp2_with (fail)
        refine (CG.out _).mono ?_
        rintro e w4 ⟨rfl, b4⟩
        have B4 := Lib.hid (B3.out.trans (b4.mono B3.out.size))
        have O4 := Lib.hid (own_below O3.out b4)
        clear b4 O3
        cases gb with
        | false =>
          have HS := Lib.hid (FS.out (by rw [HGO.out, Bool.and_false]))
          go_wp2
          go_ret
          rw [HS.out]
          exact ⟨_, rfl, own_base O4.out (by have := B0.out.size; omega), B0.out.trans (B4.out.mono B0.out.size)⟩
        | true =>
          have HN := Lib.hid (FN.out (by rw [HGO.out, decide_eq_false hn0]; rfl))
          clear FN FS HGO
          have b0 := HN.out.hi
          go_wp2_with (first | (at_builtin; refine sc.list_app3 (by rfl) (.tmp 28) (.tmp 30) 31 (by rfl) W.heap.size w4 3 i1 (.int .i64 0) 8 Tryz.underlying31 gi gz0 gz1 gz2 (by rfl) _ xs.length _ O4.out B4.out.size [.int .i64 base] 1 ?_ ?_ ?_ ?_ (by rfl) (by rfl) ?_ ?_; rfl; simp [Value.oneCell']; unfold maxLen; omega; omega; rfl; intro v5 w5 o5 g5; obtain ⟨a5, c5, rfl, _, _, _⟩ := own_form o5; have B5 := Lib.hid (B4.out.grown g5 B4.out.size (fun k hk => (sc.own_block_ge O4.out k hk).1))) | fail)
          refine (CL.out _).mono ?_
          rintro e w6 ⟨rfl, b6⟩
          have B6 := Lib.hid (B5.out.trans (b6.mono B5.out.size))
          have O6 := Lib.hid (own_below o5 b6)
          go_wp2
          go_roundw
          case rel => exact ⟨xs ++ [base], base + (n : Int), (ln : Int), rfl, rfl, HN, Lib.hid (by simpa using O6.out), B6⟩
          case measure => simp; omega
    · have HS := Lib.hid (FF.out.full hlt)
      have i0 : ¬ (xs.length : Int) < 16 := by omega
      go_wp2
      go_ret
      rw [HS.out]
      exact ⟨_, rfl, own_base OO.out (by have := B0.out.size; omega), B0.out.trans (BB.out.mono B0.out.size)⟩

end Go.Proofs.YtiehfobcbhgfkaaGreatDoor.row

namespace Go.Proofs.YtiehfobcbhgfkaaGreatDoor.row
set_option maxRecDepth 20000
open Go.RowKit
open kit sum num burst hd fr recs sc disk kd nam

theorem step_copy {P : Program} {ops : Array Oper} {o : Oper} {a : Act} {K : Act → World → Prop} {Q : Exit → Act → World → Prop} {E : Prop} {w : World} (hgd : o.guard = none) (s x : Operand) (t : TypeId)
    (ho : o.op = .call { callee := .builtin .append, args := #[s, x], argTypes := #[t, t] })
    (B : Nat) (e : TypeId) (i : TypeInfo) (z : Value) (size bytes : Nat) (ht : P.underlying t = some (.slice e)) (hi : P.info? e = some i) (hz : i.zero = some z)
    (hsize : i.size = size) (hby : i.bytes = bytes) (hzs : z.cells.size = size) (hsz : 0 < size)
    (v : Value) (n : Nat) (xs : List Value) (hown : w.ownsRow B e size v n xs) (hB : B ≤ w.heap.size)
    (b : Option Addr) (m c : Nat) (news : List Value) (hc : Cells w b m size news) (hone : ∀ u ∈ news, u.oneCell' = true) (h63 : n + m ≤ maxLen) (hbytes : (n + m) * bytes ≤ 140737488355328)
    (hs : a.eval s = v) (hx : a.eval x = .slice b m c)
    (h : ∀ v' w', w'.ownsRow B e size v' (n + m) (xs ++ news) → w.grownBy w' v.ownBlock → K (a.put o.dst v') w') :
    if Region.wanted o (yielded ops a.tmps) = true then Oper.wp P o a w K Q else E := by
  have hwd : Region.wanted o (yielded ops a.tmps) = true := by simp [Region.wanted, hgd]
  rw [if_pos hwd]
  exact wp_copy s x t ho B e i z size bytes ht hi hz hsize hby hzs hsz v n xs hown hB b m c news hc hone h63 hbytes hs hx h

set_option maxHeartbeats 4000000 in
theorem specRowOf (v : Value) (d : D) (w : World) (hk : okD d) (hv : IsDisk w v d) :
    Calls Tryz.prog 17 #[v] w fun e w' => ∃ u, e = .returned u ∧ w'.ownsRow w.heap.size 9 1 u (rowOf d).length ((rowOf d).map Value.string) ∧ Below w.heap.size w w' := by
  obtain ⟨i1, gi, gz0, gz1, gz2⟩ := info_parts strs.Tryz.infoStr
  obtain ⟨aN, aE, aO, aS, nN, cN, nE, cE, nO, cO, nS, cS, rfl, h1, h2, h3, h4⟩ := hv
  have bw := (Below.refl w.heap.size w).alloc (Nat.le_refl _) (.cells #[.slice aN nN cN, .slice aE nE cE, .slice aO nO cO, .slice aS nS cS, .int .i64 d.room, .int .i64 d.next] 28)
  have bx := sc.Box.new w #[.slice aN nN cN, .slice aE nE cE, .slice aO nO cO, .slice aS nS cS, .int .i64 d.room, .int .i64 d.next] 28
  obtain ⟨W, hW⟩ : ∃ W, W = w.alloc (.cells #[.slice aN nN cN, .slice aE nE cE, .slice aO nO cO, .slice aS nS cS, .int .i64 d.room, .int .i64 d.next] 28) := ⟨_, rfl⟩
  rw [← hW] at bw bx
  have HV : Hid (IsDisk W (.agg #[.slice aN nN cN, .slice aE nE cE, .slice aO nO cO, .slice aS nS cS, .int .i64 d.room, .int .i64 d.next]) d) := Lib.hid ⟨aN, aE, aO, aS, nN, cN, nE, cE, nO, cO, nS, cS, rfl, h1.below bw, h2.below bw, h3.below bw, h4.below bw⟩
  have B0 := Lib.hid bw
  have X0 := Lib.hid bx
  clear h1 h2 h3 h4 bw bx
  have HK := Lib.hid hk
  have sz : W.heap.size = w.heap.size + 1 := by rw [hW]; simp
  have O1 := World.ownsRow_made (base := W.heap.size) (e := 9) (size := 1) W #[] 0 (Nat.le_refl _) (by decide) rfl
  have O1 := Lib.hid O1
  have bn := (Below.refl W.heap.size W).alloc (Nat.le_refl _) (.cells #[] 9)
  have B1 := Lib.hid bn
  have V1 := Lib.hid (HV.out.below bn)
  have X1 := Lib.hid (X0.out.below bn)
  have SZ := Lib.hid sz
  obtain ⟨W1, hW1⟩ : ∃ W1, W1 = W.alloc (.cells #[] 9) := ⟨_, rfl⟩
  rw [← hW1] at O1 B1 V1 X1
  have CC := Lib.hid (specChain _ d W1 hk V1.out)
  have hcl := chain_length d
  have HCI := Lib.hid (chain_in hk.2)
  have HRD := Lib.hid (show rowOf d = (chain d).flatMap fun b => sc.recs (tAt d b) from rfl)
  obtain ⟨ch, hch⟩ : ∃ ch, chain d = ch := ⟨_, rfl⟩
  rw [hch] at CC hcl HCI HRD
  clear sz bn hch
  go_enter Tryz.func17, Tryz.ntmps17
  have y0 := X1.out.at 0 _ rfl
  have y1 := X1.out.at 1 _ rfl
  have y2 := X1.out.at 2 _ rfl
  have y3 := X1.out.at 3 _ rfl
  have y4 := X1.out.at 4 _ rfl
  have y5 := X1.out.at 5 _ rfl
  rw [hW1, hW] at y0 y1 y2 y3 y4 y5
  go_wp2_with (fail)
  rw [← hW, ← hW1, ← SZ.out]
  clear hW hW1 y0 y1 y2 y3 y4 y5
  refine CC.out.mono ?_
  rintro e w2 ⟨u2, rfl, o2, b2⟩
  obtain ⟨aC, cC, rfl, _, _, _⟩ := own_form o2
  have AC := Lib.hid (ints.At.of_own o2)
  have B2 := Lib.hid (B1.out.trans (b2.mono B1.out.size))
  have O2 := Lib.hid (own_below O1.out b2)
  have OC := Lib.hid (own_base o2 B1.out.size)
  clear b2 o2 O1 B1 CC V1 X1 AC
  go_wp2
  go_loopw [3, 5] (fun o i wr => ∃ k : Nat, k ≤ ch.length ∧ i = .int .i64 k ∧ Hid (wr.ownsRow W.heap.size 9 1 o ((ch.take k).flatMap fun b => sc.recs (tAt d b)).length (((ch.take k).flatMap fun b => sc.recs (tAt d b)).map Value.string)) ∧ Hid (Below W.heap.size W wr) ∧ Hid (wr.ownsRow W.heap.size 3 1 (.slice aC ch.length cC) ch.length (ch.map (Value.int .i64)))) (fun _ i _ => ch.length - (intOf i).toNat)
  case atStart => exact ⟨0, Nat.zero_le _, rfl, O2, B2, OC⟩
  case round =>
    obtain ⟨k, hk', rfl, OO, BB, CC⟩ := hrel
    obtain ⟨a, c, rfl, _, _, _⟩ := own_form OO.out
    by_cases hlt : k < ch.length
    · obtain ⟨x, hxk⟩ : ∃ x, ch[k]? = some x := ⟨_, List.getElem?_eq_getElem hlt⟩
      have hin := HCI.out x (List.mem_of_getElem? hxk)
      have HT := Lib.hid (flat_take (fun b => sc.recs (tAt d b)) hxk)
      have hfl := flat_le HK.out.2 (ch.take k)
      have hkl : (ch.take k).length = k := by rw [List.length_take]; omega
      rw [hkl] at hfl
      obtain ⟨ps, hps⟩ : ∃ ps, ((ch.take k).flatMap fun b => sc.recs (tAt d b)) = ps := ⟨_, rfl⟩
      rw [hps] at HT hfl OO ⊢
      obtain ⟨g, p, rfl, hg, hc⟩ := (ints.At.of_own CC.out).2.resolve_left (by omega)
      have c1 := hc k x hxk
      have hpn : ps.length ≤ 16777216 := by omega
      have hT := tAt_le HK.out.2 x
      have hrl := recs_few HK.out.2 x
      have bd := (Below.refl wr.heap.size wr).drew
      have VD := Lib.hid ((HV.out.below BB.out).below bd)
      have XX := Lib.hid (X0.out.below BB.out)
      have CTX := Lib.hid (specTextAt _ d x wr.drew HK.out VD.out)
      obtain ⟨T, hTT⟩ : ∃ T, tAt d x = T := ⟨_, rfl⟩
      rw [hTT] at CTX HT hT hrl
      obtain ⟨rs, hrs⟩ : ∃ rs, sc.recs T = rs := ⟨_, rfl⟩
      rw [hrs] at HT hrl
      have CRX := Lib.hid (fun w => specRecords T w hT)
      rw [hrs] at CRX
      have x0 := XX.out.at 0 _ rfl
      have x1 := XX.out.at 1 _ rfl
      have x2 := XX.out.at 2 _ rfl
      have x3 := XX.out.at 3 _ rfl
      have x4 := XX.out.at 4 _ rfl
      have x5 := XX.out.at 5 _ rfl
      have i0 : (0 : Int) ≤ (k : Int) := by omega
      have i1' : (k : Int) < (ch.length : Int) := by omega
      have HG := Lib.hid hg
      have HPN := Lib.hid hpn
      have HRL := Lib.hid hrl
      clear hc hps hkl hfl hTT hrs hxk hg hpn hrl
      go_wp2
      go_region_law (first | (go_simp; go_at_call 54; refine CTX.out.mono ?_; rintro e w4 ⟨rfl, b4⟩; have bW := (Below.refl wr.heap.size wr).drew.trans b4; have B4 := Lib.hid (BB.out.trans (bW.mono BB.out.size)); have O4 := Lib.hid (own_below OO.out bW); have C4 := Lib.hid (own_below CC.out bW); have XX4 := XX.out.below bW; have z0 := XX4.at 0 _ rfl; have z1 := XX4.at 1 _ rfl; have z2 := XX4.at 2 _ rfl; have z3 := XX4.at 3 _ rfl; have z4 := XX4.at 4 _ rfl; have z5 := XX4.at 5 _ rfl; have d1 := (bW.cell (p := ⟨g, p + k, none⟩) HG.out).trans c1; clear b4 bW XX4) | (go_simp; go_at_call 27; refine (CRX.out w4).mono ?_; rintro e w5 ⟨⟨v5, rfl, o5⟩, b5⟩; obtain ⟨a5, c5, rfl, _, _, _⟩ := own_form o5; have A5 := Lib.hid (at_cells (strs.At.of_own o5)); have B5 := Lib.hid (B4.out.trans (b5.mono B4.out.size)); have O5 := Lib.hid (own_below O4.out b5); have C5 := Lib.hid (own_below C4.out b5); clear b5 o5) | (refine step_copy (by rfl) (.tmp 15) (.tmp 22) 26 (by rfl) W.heap.size 9 i1 (.string { data := #[] }) 1 16 Tryz.underlying26 gi gz0 gz1 gz2 (by rfl) (by decide) _ ps.length _ O5.out B5.out.size a5 rs.length c5 _ A5.out (oneS rs) ?_ ?_ (by rfl) (by rfl) ?_; (unfold maxLen; have := HPN.out; have := HRL.out; omega); (have := HPN.out; have := HRL.out; omega); intro v6 w6 o6 g6; obtain ⟨a6, c6, rfl, _, _, _⟩ := own_form o6; have B6 := Lib.hid (B5.out.grown g6 B5.out.size (fun k hk => (sc.own_block_ge O5.out k hk).1)); have C6 := Lib.hid (sc.own_grown C5.out g6 (off_type C5.out O5.out (by decide)))))
      all_goals
        go_wp2
        go_roundw
        case rel =>
          refine ⟨k + 1, by omega, by go_num, ?_, B6, C6⟩
          rw [HT.out]
          exact Lib.hid (by simpa using o6)
        case measure => simp [intOf]; omega
    · obtain rfl : k = ch.length := by omega
      have HE := Lib.hid (show rowOf d = (ch.take ch.length).flatMap fun b => sc.recs (tAt d b) by rw [HRD.out, List.take_of_length_le (Nat.le_refl _)])
      obtain ⟨ps, hps⟩ : ∃ ps, ((ch.take ch.length).flatMap fun b => sc.recs (tAt d b)) = ps := ⟨_, rfl⟩
      rw [hps] at HE OO ⊢
      clear hps
      go_wp2
      go_ret
      rw [HE.out]
      exact ⟨_, rfl, own_base OO.out (by have := B0.out.size; omega), B0.out.trans (BB.out.mono B0.out.size)⟩

theorem cells_one (w : World) (t : ByteArray) : Cells (w.alloc (.cells #[.string t] 9)) (some ⟨w.heap.size, 0, none⟩) 1 1 [.string t] := by
  refine ⟨rfl, .inr ⟨w.heap.size, 0, rfl, by simp, fun j x hx => ?_⟩⟩
  rw [cell_of_row _ _ _ _ _ _ (heap_alloc_new w _)]
  simpa using hx

set_option maxHeartbeats 4000000 in
theorem specChainTexts (v : Value) (d : D) (w : World) (hk : okD d) (hv : IsDisk w v d) :
    Calls Tryz.prog 37 #[v] w fun e w' => ∃ u, e = .returned u ∧ w'.ownsRow w.heap.size 9 1 u (texts d).length ((texts d).map Value.string) ∧ Below w.heap.size w w' := by
  obtain ⟨i1, gi, gz0, gz1, gz2⟩ := info_parts strs.Tryz.infoStr
  obtain ⟨aN, aE, aO, aS, nN, cN, nE, cE, nO, cO, nS, cS, rfl, h1, h2, h3, h4⟩ := hv
  have bw := (Below.refl w.heap.size w).alloc (Nat.le_refl _) (.cells #[.slice aN nN cN, .slice aE nE cE, .slice aO nO cO, .slice aS nS cS, .int .i64 d.room, .int .i64 d.next] 28)
  have bx := sc.Box.new w #[.slice aN nN cN, .slice aE nE cE, .slice aO nO cO, .slice aS nS cS, .int .i64 d.room, .int .i64 d.next] 28
  obtain ⟨W, hW⟩ : ∃ W, W = w.alloc (.cells #[.slice aN nN cN, .slice aE nE cE, .slice aO nO cO, .slice aS nS cS, .int .i64 d.room, .int .i64 d.next] 28) := ⟨_, rfl⟩
  rw [← hW] at bw bx
  have HV : Hid (IsDisk W (.agg #[.slice aN nN cN, .slice aE nE cE, .slice aO nO cO, .slice aS nS cS, .int .i64 d.room, .int .i64 d.next]) d) := Lib.hid ⟨aN, aE, aO, aS, nN, cN, nE, cE, nO, cO, nS, cS, rfl, h1.below bw, h2.below bw, h3.below bw, h4.below bw⟩
  have B0 := Lib.hid bw
  have X0 := Lib.hid bx
  clear h1 h2 h3 h4 bw bx
  have HK := Lib.hid hk
  have sz : W.heap.size = w.heap.size + 1 := by rw [hW]; simp
  have O1 := World.ownsRow_made (base := W.heap.size) (e := 9) (size := 1) W #[] 0 (Nat.le_refl _) (by decide) rfl
  have O1 := Lib.hid O1
  have bn := (Below.refl W.heap.size W).alloc (Nat.le_refl _) (.cells #[] 9)
  have B1 := Lib.hid bn
  have V1 := Lib.hid (HV.out.below bn)
  have X1 := Lib.hid (X0.out.below bn)
  have SZ := Lib.hid sz
  obtain ⟨W1, hW1⟩ : ∃ W1, W1 = W.alloc (.cells #[] 9) := ⟨_, rfl⟩
  rw [← hW1] at O1 B1 V1 X1
  have CC := Lib.hid (specChain _ d W1 hk V1.out)
  have hcl := chain_length d
  have HCI := Lib.hid (chain_in hk.2)
  have HRD := Lib.hid (show texts d = (chain d).map (tAt d) from rfl)
  obtain ⟨ch, hch⟩ : ∃ ch, chain d = ch := ⟨_, rfl⟩
  rw [hch] at CC hcl HCI HRD
  clear sz bn hch
  go_enter Tryz.func37, Tryz.ntmps37
  have y0 := X1.out.at 0 _ rfl
  have y1 := X1.out.at 1 _ rfl
  have y2 := X1.out.at 2 _ rfl
  have y3 := X1.out.at 3 _ rfl
  have y4 := X1.out.at 4 _ rfl
  have y5 := X1.out.at 5 _ rfl
  rw [hW1, hW] at y0 y1 y2 y3 y4 y5
  go_wp2_with (fail)
  rw [← hW, ← hW1, ← SZ.out]
  clear hW hW1 y0 y1 y2 y3 y4 y5
  refine CC.out.mono ?_
  rintro e w2 ⟨u2, rfl, o2, b2⟩
  obtain ⟨aC, cC, rfl, _, _, _⟩ := own_form o2
  have AC := Lib.hid (ints.At.of_own o2)
  have B2 := Lib.hid (B1.out.trans (b2.mono B1.out.size))
  have O2 := Lib.hid (own_below O1.out b2)
  have OC := Lib.hid (own_base o2 B1.out.size)
  clear b2 o2 O1 B1 CC V1 X1 AC
  go_wp2
  go_loopw [3, 5] (fun o i wr => ∃ k : Nat, k ≤ ch.length ∧ i = .int .i64 k ∧ Hid (wr.ownsRow W.heap.size 9 1 o ((ch.take k).map (tAt d)).length (((ch.take k).map (tAt d)).map Value.string)) ∧ Hid (Below W.heap.size W wr) ∧ Hid (wr.ownsRow W.heap.size 3 1 (.slice aC ch.length cC) ch.length (ch.map (Value.int .i64)))) (fun _ i _ => ch.length - (intOf i).toNat)
  case atStart => exact ⟨0, Nat.zero_le _, rfl, O2, B2, OC⟩
  case round =>
    obtain ⟨k, hk', rfl, OO, BB, CC⟩ := hrel
    obtain ⟨a, c, rfl, _, _, _⟩ := own_form OO.out
    by_cases hlt : k < ch.length
    · obtain ⟨x, hxk⟩ : ∃ x, ch[k]? = some x := ⟨_, List.getElem?_eq_getElem hlt⟩
      have hin := HCI.out x (List.mem_of_getElem? hxk)
      have HT := Lib.hid (map_take1 (tAt d) hxk)
      have hfl : ((ch.take k).map (tAt d)).length ≤ 16 := by rw [List.length_map, List.length_take]; omega
      obtain ⟨ps, hps⟩ : ∃ ps, ((ch.take k).map (tAt d)) = ps := ⟨_, rfl⟩
      rw [hps] at HT hfl OO ⊢
      obtain ⟨g, p, rfl, hg, hc⟩ := (ints.At.of_own CC.out).2.resolve_left (by omega)
      have c1 := hc k x hxk
      have hpn : ps.length ≤ 16 := hfl
      have hT := tAt_le HK.out.2 x
      have bd := (Below.refl wr.heap.size wr).drew
      have VD := Lib.hid ((HV.out.below BB.out).below bd)
      have XX := Lib.hid (X0.out.below BB.out)
      have CTX := Lib.hid (specTextAt _ d x wr.drew HK.out VD.out)
      obtain ⟨T, hTT⟩ : ∃ T, tAt d x = T := ⟨_, rfl⟩
      rw [hTT] at CTX HT hT
      have x0 := XX.out.at 0 _ rfl
      have x1 := XX.out.at 1 _ rfl
      have x2 := XX.out.at 2 _ rfl
      have x3 := XX.out.at 3 _ rfl
      have x4 := XX.out.at 4 _ rfl
      have x5 := XX.out.at 5 _ rfl
      have i0 : (0 : Int) ≤ (k : Int) := by omega
      have i1' : (k : Int) < (ch.length : Int) := by omega
      have HG := Lib.hid hg
      have HPN := Lib.hid hpn
      clear hc hps hfl hTT hxk hg hpn
      go_wp2
      go_region_law (first | (go_simp; go_at_call 54; refine CTX.out.mono ?_; rintro e w4 ⟨rfl, b4⟩; have bW := (Below.refl wr.heap.size wr).drew.trans b4; have B4 := Lib.hid (BB.out.trans (bW.mono BB.out.size)); have O4 := Lib.hid (own_below OO.out bW); have C4 := Lib.hid (own_below CC.out bW); have XX4 := XX.out.below bW; have z0 := XX4.at 0 _ rfl; have z1 := XX4.at 1 _ rfl; have z2 := XX4.at 2 _ rfl; have z3 := XX4.at 3 _ rfl; have z4 := XX4.at 4 _ rfl; have z5 := XX4.at 5 _ rfl; have d1 := (bW.cell (p := ⟨g, p + k, none⟩) HG.out).trans c1; have A5 := Lib.hid (cells_one w4 T); have O5 := Lib.hid (own_below O4.out ((Below.refl w4.heap.size w4).alloc (Nat.le_refl _) (.cells #[.string T] 9))); have C5 := Lib.hid (own_below C4.out ((Below.refl w4.heap.size w4).alloc (Nat.le_refl _) (.cells #[.string T] 9))); have B5 := Lib.hid (B4.out.alloc B4.out.size (.cells #[.string T] 9)); clear b4 bW XX4) | (refine step_copy (by rfl) (.tmp 15) (.tmp 22) 26 (by rfl) W.heap.size 9 i1 (.string { data := #[] }) 1 16 Tryz.underlying26 gi gz0 gz1 gz2 (by rfl) (by decide) _ ps.length _ O5.out B5.out.size _ 1 1 _ A5.out (by simp [Value.oneCell']) ?_ ?_ (by rfl) (by rfl) ?_; (unfold maxLen; have := HPN.out; omega); (have := HPN.out; omega); intro v6 w6 o6 g6; obtain ⟨a6, c6, rfl, _, _, _⟩ := own_form o6; have B6 := Lib.hid (B5.out.grown g6 B5.out.size (fun k hk => (sc.own_block_ge O5.out k hk).1)); have C6 := Lib.hid (sc.own_grown C5.out g6 (off_type C5.out O5.out (by decide)))))
      all_goals
        go_wp2
        go_roundw
        case rel =>
          refine ⟨k + 1, by omega, by go_num, ?_, B6, C6⟩
          rw [HT.out]
          exact Lib.hid (by simpa using o6)
        case measure => simp [intOf]; omega
    · obtain rfl : k = ch.length := by omega
      have HE := Lib.hid (show texts d = (ch.take ch.length).map (tAt d) by rw [HRD.out, List.take_of_length_le (Nat.le_refl _)])
      obtain ⟨ps, hps⟩ : ∃ ps, ((ch.take ch.length).map (tAt d)) = ps := ⟨_, rfl⟩
      rw [hps] at HE OO ⊢
      clear hps
      go_wp2
      go_ret
      rw [HE.out]
      exact ⟨_, rfl, own_base OO.out (by have := B0.out.size; omega), B0.out.trans (BB.out.mono B0.out.size)⟩

end Go.Proofs.YtiehfobcbhgfkaaGreatDoor.row

namespace Go.Proofs.YtiehfobcbhgfkaaGreatDoor.row
set_option maxRecDepth 20000
open Go.RowKit
open kit sum num burst hd fr recs sc disk kd nam

/-- an append to a row of one's own: it lies where the old one lay, or in a new block -/
theorem list_own {P : Program} {ops : Array Oper} {rest : List Oper} {o : Oper} {a : Act} {Q : Exit → Act → World → Prop} {w : World} (hgd : o.guard = none) (s x : Operand) (t : TypeId)
    (ho : o.op = .call { callee := .builtin .append, args := #[s, x], argTypes := #[t, t] })
    (B : Nat) (wr : World) (e : TypeId) (i : TypeInfo) (z : Value) (bytes : Nat) (ht : P.underlying t = some (.slice e)) (hi : P.info? e = some i) (hz : i.zero = some z)
    (hsize : i.size = 1) (hby : i.bytes = bytes) (hzs : z.cells.size = 1)
    (v : Value) (n : Nat) (xs : List Value) (hown : wr.ownsRow B e 1 v n xs) (hB : B ≤ wr.heap.size)
    (news : List Value) (m : Nat) (hlen : news.length = m) (hone : ∀ u ∈ news, u.oneCell' = true) (hm : 0 < m) (h63 : n + m ≤ maxLen) (hbytes : (n + m) * bytes ≤ 140737488355328)
    (hs : a.eval s = v) (hx : a.eval x = .slice (some ⟨wr.heap.size, 0, none⟩) m m)
    (hw : w = wr.alloc (.cells news.toArray e))
    (h : ∀ v' w', w'.ownsRow B e 1 v' (n + m) (xs ++ news) → wr.grownBy w' v.ownBlock → (v'.ownBlock = v.ownBlock ∨ w'.ownsRow wr.heap.size e 1 v' (n + m) (xs ++ news)) → wpList P ops Q rest (a.put o.dst v') w') :
    wpList P ops Q (o :: rest) a w := by
  subst hw
  have hnew := heap_alloc_new wr (.cells news.toArray e)
  refine deed.list_copy2 hgd s x t ho B e i z 1 bytes ht hi hz hsize hby hzs (by decide) v n xs (hown.alloc _) (by simp; omega) ⟨wr.heap.size, 0, none⟩ m m news ⟨by omega, .inr ⟨wr.heap.size, 0, rfl, by simp, fun j u hj => ?_⟩⟩ hone hm h63 hbytes hs hx (fun v' w' h1 h2 h3 => h v' w' h1 (grown_trans (World.grownBy_alloc wr _ v.ownBlock) h2) (h3.imp id fun h4 => own_base h4 (by simp)))
  rw [cell_of_row _ _ _ _ _ _ hnew]
  simpa using hj
theorem off_new {w w' : World} {B n n' s s' : Nat} {e e' : TypeId} {u v u' : Value} {xs ys : List Value} (h : sc.Off u v) (hv : w.ownsRow B e s v n xs) (hn : u'.ownBlock = u.ownBlock ∨ w'.ownsRow w.heap.size e' s' u' n' ys) : sc.Off u' v := fun g h1 h2 => by
  rcases hn with h3 | h3
  · exact h g (h3 ▸ h1) h2
  · have a := (sc.own_block_ge h3 g h1).1
    have b := (sc.own_block_ge hv g h2).2
    omega

set_option maxHeartbeats 4000000 in
theorem specBehind (v : Value) (d : D) (base : Int) (w : World) (hk : okD d) (hv : IsDisk w v d) :
    Calls Tryz.prog 38 #[v, .int .i64 base] w fun e w' => ∃ u, e = .returned u ∧ w'.ownsRow w.heap.size 3 1 u (behind d base).length ((behind d base).map (Value.int .i64)) ∧ Below w.heap.size w w' := by
  obtain ⟨i1, gi, gz0, gz1, gz2⟩ := info_parts ints.Tryz.infoInt
  obtain ⟨aN, aE, aO, aS, nN, cN, nE, cE, nO, cO, nS, cS, rfl, h1, h2, h3, h4⟩ := hv
  have bw := (Below.refl w.heap.size w).alloc (Nat.le_refl _) (.cells #[.slice aN nN cN, .slice aE nE cE, .slice aO nO cO, .slice aS nS cS, .int .i64 d.room, .int .i64 d.next] 28)
  have bx := sc.Box.new w #[.slice aN nN cN, .slice aE nE cE, .slice aO nO cO, .slice aS nS cS, .int .i64 d.room, .int .i64 d.next] 28
  obtain ⟨W, hW⟩ : ∃ W, W = w.alloc (.cells #[.slice aN nN cN, .slice aE nE cE, .slice aO nO cO, .slice aS nS cS, .int .i64 d.room, .int .i64 d.next] 28) := ⟨_, rfl⟩
  rw [← hW] at bw bx
  have HV : Hid (IsDisk W (.agg #[.slice aN nN cN, .slice aE nE cE, .slice aO nO cO, .slice aS nS cS, .int .i64 d.room, .int .i64 d.next]) d) := Lib.hid ⟨aN, aE, aO, aS, nN, cN, nE, cE, nO, cO, nS, cS, rfl, h1.below bw, h2.below bw, h3.below bw, h4.below bw⟩
  have B0 := Lib.hid bw
  have X0 := Lib.hid bx
  clear h1 h2 h3 h4 bw bx
  have HK := Lib.hid hk
  have sz : W.heap.size = w.heap.size + 1 := by rw [hW]; simp
  have O1 := World.ownsRow_made (base := W.heap.size) (e := 3) (size := 1) W #[] 0 (Nat.le_refl _) (by decide) rfl
  have O1 := Lib.hid O1
  have bn := (Below.refl W.heap.size W).alloc (Nat.le_refl _) (.cells #[] 3)
  have B1 := Lib.hid bn
  have V1 := Lib.hid (HV.out.below bn)
  have X1 := Lib.hid (X0.out.below bn)
  have SZ := Lib.hid sz
  obtain ⟨W1, hW1⟩ : ∃ W1, W1 = W.alloc (.cells #[] 3) := ⟨_, rfl⟩
  rw [← hW1] at O1 B1 V1 X1
  have HW1 := Lib.hid (show W.heap.size < W1.heap.size by rw [hW1]; simp)
  have CC := Lib.hid (specChain _ d W1 hk V1.out)
  have hcl := chain_length d
  have HCI := Lib.hid (chain_in hk.2)
  have HRD := Lib.hid (show behind d base = (chain d).filter (fun b => decide (base < b)) from rfl)
  obtain ⟨ch, hch⟩ : ∃ ch, chain d = ch := ⟨_, rfl⟩
  rw [hch] at CC hcl HCI HRD
  clear sz bn hch
  go_enter Tryz.func38, Tryz.ntmps38
  have y0 := X1.out.at 0 _ rfl
  have y1 := X1.out.at 1 _ rfl
  have y2 := X1.out.at 2 _ rfl
  have y3 := X1.out.at 3 _ rfl
  have y4 := X1.out.at 4 _ rfl
  have y5 := X1.out.at 5 _ rfl
  rw [hW1, hW] at y0 y1 y2 y3 y4 y5
  go_wp2_with (fail)
  rw [← hW, ← hW1, ← SZ.out]
  clear hW hW1 y0 y1 y2 y3 y4 y5
  refine CC.out.mono ?_
  rintro e w2 ⟨u2, rfl, o2, b2⟩
  obtain ⟨aC, cC, rfl, _, _, _⟩ := own_form o2
  have AC := Lib.hid (ints.At.of_own o2)
  have B2 := Lib.hid (B1.out.trans (b2.mono B1.out.size))
  have O2 := Lib.hid (own_below O1.out b2)
  have OC := Lib.hid o2
  have OF := Lib.hid (show sc.Off (.slice (some ⟨W.heap.size, 0, none⟩) 0 0) (.slice aC ch.length cC) from fun q h1 h2 => by
    have h3 := (sc.own_block_ge o2 q h2).1
    have h4 : W.heap.size = q := by simpa [Value.ownBlock] using h1
    have h5 := B1.out.size
    have h6 := HW1.out
    omega)
  clear b2 o2 O1 B1 CC V1 X1 AC
  go_wp2
  go_loopw [5, 7] (fun o i wr => ∃ k : Nat, k ≤ ch.length ∧ i = .int .i64 k ∧ Hid (wr.ownsRow W.heap.size 3 1 o ((ch.take k).filter fun b => decide (base < b)).length (((ch.take k).filter fun b => decide (base < b)).map (Value.int .i64))) ∧ Hid (Below W.heap.size W wr) ∧ Hid (wr.ownsRow W1.heap.size 3 1 (.slice aC ch.length cC) ch.length (ch.map (Value.int .i64))) ∧ Hid (sc.Off o (.slice aC ch.length cC))) (fun _ i _ => ch.length - (intOf i).toNat)
  case atStart => exact ⟨0, Nat.zero_le _, rfl, O2, B2, OC, OF⟩
  case round =>
    obtain ⟨k, hk', rfl, OO, BB, CC, OFF⟩ := hrel
    obtain ⟨a, c, rfl, _, _, _⟩ := own_form OO.out
    by_cases hlt : k < ch.length
    · obtain ⟨x, hxk⟩ : ∃ x, ch[k]? = some x := ⟨_, List.getElem?_eq_getElem hlt⟩
      have HT := Lib.hid (filter_take1 (fun b => decide (base < b)) hxk)
      have hfl : ((ch.take k).filter fun b => decide (base < b)).length ≤ 16 := Nat.le_trans (List.length_filter_le _ _) (by rw [List.length_take]; omega)
      obtain ⟨ps, hps⟩ : ∃ ps, ((ch.take k).filter fun b => decide (base < b)) = ps := ⟨_, rfl⟩
      rw [hps] at HT hfl OO OFF ⊢
      obtain ⟨g, p, hga, hg, hc⟩ := (ints.At.of_own CC.out).2.resolve_left (by omega)
      subst hga
      have c1 := hc k x hxk
      have i0 : (0 : Int) ≤ (k : Int) := by omega
      have i1' : (k : Int) < (ch.length : Int) := by omega
      by_cases hb : base < x
      · rw [decide_eq_true hb, if_pos rfl] at HT
        clear hc hps hxk hg
        go_wp2_with (first | (at_builtin; refine list_own (by rfl) (.tmp 23) (.tmp 28) 31 (by rfl) W.heap.size wr 3 i1 (.int .i64 0) 8 Tryz.underlying31 gi gz0 gz1 gz2 (by rfl) _ ps.length _ OO.out BB.out.size [.int .i64 x] 1 (by rfl) (by simp [Value.oneCell']) (by decide) (by unfold maxLen; omega) (by omega) (by rfl) (by rfl) (by rfl) ?_; intro v6 w6 o6 g6 n6; obtain ⟨a6, c6, rfl, _, _, _⟩ := own_form o6; have B6 := Lib.hid (BB.out.grown g6 BB.out.size (fun k hk => (sc.own_block_ge OO.out k hk).1)); have C6 := Lib.hid (sc.own_grown CC.out g6 (fun q h1 h2 => OFF.out q h2 h1)); have F6 := Lib.hid (off_new OFF.out CC.out n6)) | fail)
        go_roundw
        case rel =>
          refine ⟨k + 1, by omega, by go_num, ?_, B6, C6, ?_⟩
          · rw [HT.out]
            exact Lib.hid (by simpa using o6)
          · exact F6
        case measure => simp [intOf]; omega
      · rw [decide_eq_false hb, if_neg (by decide), List.append_nil] at HT
        clear hc hps hxk hg
        go_wp2
        go_roundw
        case rel =>
          refine ⟨k + 1, by omega, by go_num, ?_, BB, CC, ?_⟩
          · rw [HT.out]; exact OO
          · exact OFF
        case measure => simp [intOf]; omega
    · obtain rfl : k = ch.length := by omega
      have HE := Lib.hid (show behind d base = (ch.take ch.length).filter (fun b => decide (base < b)) by rw [HRD.out, List.take_of_length_le (Nat.le_refl _)])
      obtain ⟨ps, hps⟩ : ∃ ps, ((ch.take ch.length).filter fun b => decide (base < b)) = ps := ⟨_, rfl⟩
      rw [hps] at HE OO ⊢
      clear hps
      go_wp2
      go_ret
      rw [HE.out]
      exact ⟨_, rfl, own_base OO.out (by have := B0.out.size; omega), B0.out.trans (BB.out.mono B0.out.size)⟩

theorem specHas (a : Option Addr) (c n : Nat) (xs : List Int) (q : Int) (w : World) (hn : n ≤ 1048576) (ha : ints.At w a n xs) :
    Calls Tryz.prog 61 #[.slice a n c, .int .i64 q] w fun e w' => e = .returned (.bool (hasI xs q)) ∧ w = w' := by
  have HL := Lib.hid ha.1
  have HA := Lib.hid ha
  clear ha
  go_enter Tryz.func61, Tryz.ntmps61
  go_wp2
  go_loopw [5] (fun i wr => ∃ k : Nat, k ≤ n ∧ i = .int .i64 k ∧ Hid (hasI (xs.take k) q = false) ∧ w = wr) (fun i _ => n - (intOf i).toNat)
  case atStart => exact ⟨0, Nat.zero_le _, rfl, Lib.hid rfl, rfl⟩
  case round =>
    obtain ⟨k, hk, rfl, hz, rfl⟩ := hrel
    by_cases hlt : k < n
    · obtain ⟨x, hxk⟩ : ∃ x, xs[k]? = some x := ⟨_, List.getElem?_eq_getElem (by rw [HL.out]; exact hlt)⟩
      obtain ⟨g, o, rfl, hg, hc⟩ := HA.out.2.resolve_left (by omega)
      have c1 := hc k x hxk
      have i0 : (0 : Int) ≤ (k : Int) := by omega
      have i1 : (k : Int) < (n : Int) := by omega
      by_cases hq : x = q
      · have HE := Lib.hid (show hasI xs q = true from List.any_eq_true.2 ⟨x, List.mem_of_getElem? hxk, by rw [hq]; exact beq_self_eq_true _⟩)
        have e1 : (x == q) = true := by rw [hq]; exact beq_self_eq_true _
        clear hc hxk hz hq
        go_wp2
        go_ret
        exact ⟨by rw [HE.out]; rfl, rfl⟩
      · have HN := Lib.hid (show hasI (xs.take (k + 1)) q = false by
          unfold hasI
          rw [List.take_add_one, hxk, Option.toList_some, List.any_append]
          have h1 := hz.out
          unfold hasI at h1
          rw [h1]
          simpa using hq)
        have e1 : (x == q) = false := by rw [beq_eq_false_iff_ne]; exact hq
        clear hc hxk hz hq
        go_wp2
        go_roundw
        case rel => exact ⟨k + 1, by omega, by go_num, HN, trivial⟩
        case measure => simp [intOf]; omega
    · obtain rfl : k = n := by omega
      have HE := Lib.hid (show hasI xs q = false by have h := hz.out; rwa [List.take_of_length_le (by rw [HL.out]; exact Nat.le_refl _)] at h)
      clear hz
      go_wp2
      go_ret
      exact ⟨by rw [HE.out]; rfl, rfl⟩

set_option maxHeartbeats 4000000 in
theorem specLoose (v : Value) (d : D) (w : World) (hk : okD d) (hv : IsDisk w v d) :
    Calls Tryz.prog 23 #[v] w fun e w' => ∃ u, e = .returned u ∧ w'.ownsRow w.heap.size 9 1 u (loose d).length ((loose d).map Value.string) ∧ Below w.heap.size w w' := by
  obtain ⟨i1, gi, gz0, gz1, gz2⟩ := info_parts strs.Tryz.infoStr
  obtain ⟨aN, aE, aO, aS, nN, cN, nE, cE, nO, cO, nS, cS, rfl, h1, h2, h3, h4⟩ := hv
  have bw := (Below.refl w.heap.size w).alloc (Nat.le_refl _) (.cells #[.slice aN nN cN, .slice aE nE cE, .slice aO nO cO, .slice aS nS cS, .int .i64 d.room, .int .i64 d.next] 28)
  have bx := sc.Box.new w #[.slice aN nN cN, .slice aE nE cE, .slice aO nO cO, .slice aS nS cS, .int .i64 d.room, .int .i64 d.next] 28
  obtain ⟨W, hW⟩ : ∃ W, W = w.alloc (.cells #[.slice aN nN cN, .slice aE nE cE, .slice aO nO cO, .slice aS nS cS, .int .i64 d.room, .int .i64 d.next] 28) := ⟨_, rfl⟩
  rw [← hW] at bw bx
  have HV : Hid (IsDisk W (.agg #[.slice aN nN cN, .slice aE nE cE, .slice aO nO cO, .slice aS nS cS, .int .i64 d.room, .int .i64 d.next]) d) := Lib.hid ⟨aN, aE, aO, aS, nN, cN, nE, cE, nO, cO, nS, cS, rfl, h1.below bw, h2.below bw, h3.below bw, h4.below bw⟩
  have B0 := Lib.hid bw
  have AE0 := Lib.hid (h2.below bw)
  have X0 := Lib.hid bx
  clear h1 h2 h3 h4 bw bx
  have HK := Lib.hid hk
  have sz : W.heap.size = w.heap.size + 1 := by rw [hW]; simp
  have O1 := World.ownsRow_made (base := W.heap.size) (e := 9) (size := 1) W #[] 0 (Nat.le_refl _) (by decide) rfl
  have O1 := Lib.hid O1
  have bn := (Below.refl W.heap.size W).alloc (Nat.le_refl _) (.cells #[] 9)
  have B1 := Lib.hid bn
  have V1 := Lib.hid (HV.out.below bn)
  have X1 := Lib.hid (X0.out.below bn)
  have SZ := Lib.hid sz
  obtain ⟨W1, hW1⟩ : ∃ W1, W1 = W.alloc (.cells #[] 9) := ⟨_, rfl⟩
  rw [← hW1] at O1 B1 V1 X1
  have CC := Lib.hid (specChain _ d W1 hk V1.out)
  have hcl := chain_length d
  have HCI := Lib.hid (chain_in hk.2)
  have HRD := Lib.hid (show loose d = (d.ents.filter fun e => looseB (chain d) e.1).map (·.1) from rfl)
  obtain ⟨ch, hch⟩ : ∃ ch, chain d = ch := ⟨_, rfl⟩
  rw [hch] at CC hcl HCI HRD
  clear sz bn hch
  go_enter Tryz.func23, Tryz.ntmps23
  have y0 := X1.out.at 0 _ rfl
  have y1 := X1.out.at 1 _ rfl
  have y2 := X1.out.at 2 _ rfl
  have y3 := X1.out.at 3 _ rfl
  have y4 := X1.out.at 4 _ rfl
  have y5 := X1.out.at 5 _ rfl
  rw [hW1, hW] at y0 y1 y2 y3 y4 y5
  go_wp2_with (fail)
  rw [← hW, ← hW1, ← SZ.out]
  clear hW hW1 y0 y1 y2 y3 y4 y5
  refine CC.out.mono ?_
  rintro e w2 ⟨u2, rfl, o2, b2⟩
  obtain ⟨aC, cC, rfl, _, _, _⟩ := own_form o2
  have AC := Lib.hid (ints.At.of_own o2)
  have B2 := Lib.hid (B1.out.trans (b2.mono B1.out.size))
  have O2 := Lib.hid (own_below O1.out b2)
  have OC := Lib.hid (own_base o2 B1.out.size)
  clear b2 o2 O1 B1 CC V1 X1 AC
  go_wp2
  go_loopw [3, 5, 6, 7] (fun o i _ _ wr => ∃ k : Nat, k ≤ d.ents.length ∧ i = .int .i64 k ∧ Hid (wr.ownsRow W.heap.size 9 1 o (((d.ents.take k).filter fun e => looseB ch e.1).map (·.1)).length ((((d.ents.take k).filter fun e => looseB ch e.1).map (·.1)).map Value.string)) ∧ Hid (Below W.heap.size W wr) ∧ Hid (wr.ownsRow W.heap.size 3 1 (.slice aC ch.length cC) ch.length (ch.map (Value.int .i64)))) (fun _ i _ _ _ => d.ents.length - (intOf i).toNat)
  case atStart => exact ⟨0, Nat.zero_le _, rfl, O2, B2, OC⟩
  case round =>
    obtain ⟨k, hk', rfl, OO, BB, CC⟩ := hrel
    obtain ⟨a, c, rfl, _, _, _⟩ := own_form OO.out
    have XX := Lib.hid (X0.out.below BB.out)
    have x1 := XX.out.at 1 _ rfl
    by_cases hlt : k < d.ents.length
    · obtain ⟨en, hxk⟩ : ∃ en, d.ents[k]? = some en := ⟨_, List.getElem?_eq_getElem hlt⟩
      have HT := Lib.hid (loose_take (l := ch) hxk)
      have hfl : (((d.ents.take k).filter fun e => looseB ch e.1).map (·.1)).length ≤ d.ents.length := by rw [List.length_map]; exact Nat.le_trans (List.length_filter_le _ _) (by rw [List.length_take]; omega)
      obtain ⟨ps, hps⟩ : ∃ ps, (((d.ents.take k).filter fun e => looseB ch e.1).map (·.1)) = ps := ⟨_, rfl⟩
      rw [hps] at HT hfl OO ⊢
      have e2 := AE0.out.below BB.out
      obtain ⟨g, p, rfl, hg, hkn, c1, _⟩ := e2.nth hxk
      have hel := e2.len
      have hes : en.1.size ≤ maxLen := (HK.out.1.2.1 en (List.mem_of_getElem? hxk)).1
      have hel9 : d.ents.length ≤ maxLen := by
        have := HK.out.1
        unfold wfD at this
        omega
      have hbk : d.ents.length ≤ 1048576 := by
        have := HK.out.2
        unfold bulk bulkE at this
        rw [List.length_map] at this
        omega
      obtain ⟨nm, eid⟩ := en
      unfold maxLen at hes
      have CN := Lib.hid (fun w => specRn_any nm w (by first | exact hes | omega))
      have hlb : looseB ch nm = ((rn nm).1 == 2 || ((rn nm).1 == 1 && !(hasI ch (rn nm).2))) := rfl
      have HT : Hid (_ = ps ++ (if looseB ch nm = true then [nm] else [])) := HT
      obtain ⟨⟨q1, q2⟩, hq⟩ : ∃ q, rn nm = q := ⟨_, rfl⟩
      unfold rnV at CN
      rw [hq] at CN hlb
      have hlb : looseB ch nm = (q1 == 2 || (q1 == 1 && !(hasI ch q2))) := hlb
      have HG := Lib.hid hg
      have i0 : (0 : Int) ≤ (k : Int) := by omega
      have i1' : (k : Int) < (d.ents.length : Int) := by omega
      have CH := Lib.hid (fun w h => specHas aC cC ch.length ch q2 w (by omega) h)
      subst hel
      clear hq hxk hps hel9
      go_wp2_with (fail)
      refine (CN.out _).mono ?_
      rintro e w2 ⟨rfl, b2⟩
      have B2 := Lib.hid (BB.out.trans (b2.mono BB.out.size))
      have O2 := Lib.hid (own_below OO.out b2)
      have C2 := Lib.hid (own_below CC.out b2)
      have z1 := (XX.out.below b2).at 1 _ rfl
      have d1 := (b2.cell (p := ⟨g, p + k * 2, none⟩) HG.out).trans c1
      clear b2 x1 c1
      by_cases h2 : q1 = 2
      · subst h2
        rw [show looseB ch nm = true from hlb, if_pos rfl] at HT
        clear hlb
        go_wp2_with (first | (at_builtin; refine sc.list_app3 (by rfl) (.tmp 40) (.tmp 47) 26 (by rfl) W.heap.size w2 9 i1 (.string { data := #[] }) 16 Tryz.underlying26 gi gz0 gz1 gz2 (by rfl) _ ps.length _ O2.out B2.out.size [.string nm] 1 ?_ ?_ ?_ ?_ (by rfl) (by rfl) ?_ ?_; rfl; simp [Value.oneCell']; unfold maxLen; omega; omega; rfl; intro v5 w5 o5 g5; obtain ⟨a5, c5, rfl, _, _, _⟩ := own_form o5; have B5 := Lib.hid (B2.out.grown g5 B2.out.size (fun k hk => (sc.own_block_ge O2.out k hk).1)); have C5 := Lib.hid (sc.own_grown C2.out g5 (off_type C2.out O2.out (by decide)))) | fail)
        refine ⟨?rel, ?measure⟩
        case rel =>
          have HX : Hid (w5.ownsRow W.heap.size 9 1 (.slice a5 (ps.length + 1) c5) (((d.ents.take (k + 1)).filter fun e => looseB ch e.1).map (·.1)).length ((((d.ents.take (k + 1)).filter fun e => looseB ch e.1).map (·.1)).map Value.string)) := by
            rw [HT.out]
            exact Lib.hid (by simpa using o5)
          first
            | exact ⟨k + 1, by omega, by go_num, HX, B5, C5⟩
            | (iterate 100 (try apply Exists.intro)
               refine ⟨?r2, rfl⟩
               exact ⟨k + 1, by omega, by go_num, HX, B5, C5⟩)
        case measure => simp [intOf]; omega
      · have e2' : (q1 == 2) = false := by rw [beq_eq_false_iff_ne]; exact h2
        rw [e2', Bool.false_or] at hlb
        by_cases h1 : q1 = 1
        · subst h1
          have hlb : looseB ch nm = !(hasI ch q2) := hlb
          cases hh : hasI ch q2 with
          | true =>
            rw [hh] at CH hlb
            rw [hlb, if_neg (by decide), List.append_nil] at HT
            clear hlb hh
            go_wp2_with (fail)
            refine (CH.out _ (ints.At.of_own C2.out)).mono ?_
            rintro e w3 ⟨rfl, rfl⟩
            go_wp2
            refine ⟨?rel, ?measure⟩
            case rel =>
              have HX : Hid (w2.ownsRow W.heap.size 9 1 (.slice a ps.length c) (((d.ents.take (k + 1)).filter fun e => looseB ch e.1).map (·.1)).length ((((d.ents.take (k + 1)).filter fun e => looseB ch e.1).map (·.1)).map Value.string)) := by
                rw [HT.out]
                exact O2
              first
                | exact ⟨k + 1, by omega, by go_num, HX, B2, C2⟩
                | (iterate 100 (try apply Exists.intro)
                   refine ⟨?r2, rfl⟩
                   exact ⟨k + 1, by omega, by go_num, HX, B2, C2⟩)
            case measure => simp [intOf]; omega
          | false =>
            rw [hh] at CH hlb
            rw [hlb, if_pos (by decide)] at HT
            clear hlb hh
            go_wp2_with (fail)
            refine (CH.out _ (ints.At.of_own C2.out)).mono ?_
            rintro e w3 ⟨rfl, rfl⟩
            go_wp2_with (first | (at_builtin; refine sc.list_app3 (by rfl) (.tmp 40) (.tmp 47) 26 (by rfl) W.heap.size w2 9 i1 (.string { data := #[] }) 16 Tryz.underlying26 gi gz0 gz1 gz2 (by rfl) _ ps.length _ O2.out B2.out.size [.string nm] 1 ?_ ?_ ?_ ?_ (by rfl) (by rfl) ?_ ?_; rfl; simp [Value.oneCell']; unfold maxLen; omega; omega; rfl; intro v5 w5 o5 g5; obtain ⟨a5, c5, rfl, _, _, _⟩ := own_form o5; have B5 := Lib.hid (B2.out.grown g5 B2.out.size (fun k hk => (sc.own_block_ge O2.out k hk).1)); have C5 := Lib.hid (sc.own_grown C2.out g5 (off_type C2.out O2.out (by decide)))) | fail)
            refine ⟨?rel, ?measure⟩
            case rel =>
              have HX : Hid (w5.ownsRow W.heap.size 9 1 (.slice a5 (ps.length + 1) c5) (((d.ents.take (k + 1)).filter fun e => looseB ch e.1).map (·.1)).length ((((d.ents.take (k + 1)).filter fun e => looseB ch e.1).map (·.1)).map Value.string)) := by
                rw [HT.out]
                exact Lib.hid (by simpa using o5)
              first
                | exact ⟨k + 1, by omega, by go_num, HX, B5, C5⟩
                | (iterate 100 (try apply Exists.intro)
                   refine ⟨?r2, rfl⟩
                   exact ⟨k + 1, by omega, by go_num, HX, B5, C5⟩)
            case measure => simp [intOf]; omega
        · have e1' : (q1 == 1) = false := by rw [beq_eq_false_iff_ne]; exact h1
          rw [e1', Bool.false_and] at hlb
          rw [hlb, if_neg (by decide), List.append_nil] at HT
          clear hlb
          go_wp2
          refine ⟨?rel, ?measure⟩
          case rel =>
            have HX : Hid (w2.ownsRow W.heap.size 9 1 (.slice a ps.length c) (((d.ents.take (k + 1)).filter fun e => looseB ch e.1).map (·.1)).length ((((d.ents.take (k + 1)).filter fun e => looseB ch e.1).map (·.1)).map Value.string)) := by
              rw [HT.out]
              exact O2
            first
              | exact ⟨k + 1, by omega, by go_num, HX, B2, C2⟩
              | (iterate 100 (try apply Exists.intro)
                 refine ⟨?r2, rfl⟩
                 exact ⟨k + 1, by omega, by go_num, HX, B2, C2⟩)
          case measure => simp [intOf]; omega
    · obtain rfl : k = d.ents.length := by omega
      have HE := Lib.hid (show loose d = ((d.ents.take d.ents.length).filter fun e => looseB ch e.1).map (·.1) by rw [HRD.out, List.take_of_length_le (Nat.le_refl _)])
      obtain ⟨ps, hps⟩ : ∃ ps, (((d.ents.take d.ents.length).filter fun e => looseB ch e.1).map (·.1)) = ps := ⟨_, rfl⟩
      rw [hps] at HE OO ⊢
      clear hps
      have e2 := AE0.out.below BB.out
      have hel := e2.len
      subst hel
      clear e2
      go_wp2
      go_ret
      rw [HE.out]
      exact ⟨_, rfl, own_base OO.out (by have := B0.out.size; omega), B0.out.trans (BB.out.mono B0.out.size)⟩

end Go.Proofs.YtiehfobcbhgfkaaGreatDoor.row

namespace Go.Proofs.YtiehfobcbhgfkaaGreatDoor.row
set_option maxRecDepth 20000
open Go.RowKit
open kit sum num burst hd fr recs sc disk kd nam

theorem own_succ {W : World} {base : Nat} {e : TypeId} {v : Value} {k : Nat} {xs : List Value} (h : W.ownsRow base e 1 v (k + 1) xs) : ∃ g cap, v = .slice (some ⟨g, 0, none⟩) (k + 1) cap := by
  rcases h.2 with ⟨_, h0⟩ | ⟨g, cap, _, rfl, _⟩
  · omega
  · exact ⟨g, cap, rfl⟩
theorem oneI (xs : List Int) : ∀ u ∈ xs.map (Value.int .i64), u.oneCell' = true := by
  intro u hu
  obtain ⟨e, _, rfl⟩ := List.mem_map.1 hu
  rfl
theorem cells_part {w : World} {g n : Nat} {xs : List Int} (h : ints.At w (some ⟨g, 0, none⟩) n xs) (i j : Nat) (hij : i + j ≤ n) : Cells w (some ⟨g, i, none⟩) j 1 (((xs.drop i).take j).map (Value.int .i64)) := by
  have hl := h.1
  refine ⟨by rw [List.length_map, List.length_take, List.length_drop]; omega, ?_⟩
  rcases h.2 with h0 | ⟨b, off, hb, hlt, hc⟩
  · exact .inl (by omega)
  · simp only [Option.some.injEq, Addr.mk.injEq] at hb
    obtain ⟨rfl, rfl, _⟩ := hb
    refine .inr ⟨_, i, rfl, hlt, fun q x hx => ?_⟩
    rw [List.getElem?_map] at hx
    obtain ⟨y, hy, rfl⟩ := Option.map_eq_some_iff.1 hx
    have hq : q < j := by
      have := (List.getElem?_eq_some_iff.1 hy).1
      rw [List.length_take] at this
      omega
    rw [List.getElem?_take_of_lt hq, List.getElem?_drop] at hy
    have := hc (i + q) y hy
    rwa [Nat.zero_add] at this

set_option maxHeartbeats 4000000 in
theorem specBasesOn (v : Value) (d : D) (w : World) (hk : okD d) (hv : IsDisk w v d) :
    Calls Tryz.prog 21 #[v] w fun e w' => ∃ u, e = .returned u ∧ w'.ownsRow w.heap.size 3 1 u (bases d.ents).length ((bases d.ents).map (Value.int .i64)) ∧ Below w.heap.size w w' := by
  obtain ⟨i1, gi, gz0, gz1, gz2⟩ := info_parts ints.Tryz.infoInt
  obtain ⟨aN, aE, aO, aS, nN, cN, nE, cE, nO, cO, nS, cS, rfl, h1, h2, h3, h4⟩ := hv
  have bw := (Below.refl w.heap.size w).alloc (Nat.le_refl _) (.cells #[.slice aN nN cN, .slice aE nE cE, .slice aO nO cO, .slice aS nS cS, .int .i64 d.room, .int .i64 d.next] 28)
  have bx := sc.Box.new w #[.slice aN nN cN, .slice aE nE cE, .slice aO nO cO, .slice aS nS cS, .int .i64 d.room, .int .i64 d.next] 28
  obtain ⟨W, hW⟩ : ∃ W, W = w.alloc (.cells #[.slice aN nN cN, .slice aE nE cE, .slice aO nO cO, .slice aS nS cS, .int .i64 d.room, .int .i64 d.next] 28) := ⟨_, rfl⟩
  rw [← hW] at bw bx
  have HV : Hid (IsDisk W (.agg #[.slice aN nN cN, .slice aE nE cE, .slice aO nO cO, .slice aS nS cS, .int .i64 d.room, .int .i64 d.next]) d) := Lib.hid ⟨aN, aE, aO, aS, nN, cN, nE, cE, nO, cO, nS, cS, rfl, h1.below bw, h2.below bw, h3.below bw, h4.below bw⟩
  have B0 := Lib.hid bw
  have AE0 := Lib.hid (h2.below bw)
  have X0 := Lib.hid bx
  clear h1 h2 h3 h4 bw bx
  have HK := Lib.hid hk
  have sz : W.heap.size = w.heap.size + 1 := by rw [hW]; simp
  have O1 := Lib.hid (World.ownsRow_made (base := W.heap.size) (e := 3) (size := 1) W #[] 0 (Nat.le_refl _) (by decide) rfl)
  have B1 := Lib.hid ((Below.refl W.heap.size W).alloc (Nat.le_refl _) (.cells #[] 3))
  have SZ := Lib.hid sz
  clear sz
  go_enter Tryz.func21, Tryz.ntmps21
  go_wp2
  rw [← hW, ← SZ.out]
  clear hW
  go_loopw [3, 4, 5, 6, 7, 8] (fun o i _ _ _ _ wr => ∃ (k g c : Nat), k ≤ d.ents.length ∧ i = .int .i64 k ∧ o = .slice (some ⟨g, 0, none⟩) (bases (d.ents.take k)).length c ∧ Hid (wr.ownsRow W.heap.size 3 1 (.slice (some ⟨g, 0, none⟩) (bases (d.ents.take k)).length c) (bases (d.ents.take k)).length ((bases (d.ents.take k)).map (Value.int .i64))) ∧ Hid (Below W.heap.size W wr)) (fun _ i _ _ _ _ _ => d.ents.length - (intOf i).toNat)
  case atStart => exact ⟨0, _, _, Nat.zero_le _, rfl, rfl, O1, B1⟩
  case round =>
    obtain ⟨k, g, c, hk', rfl, rfl, OO, BB⟩ := hrel
    have XX := Lib.hid (X0.out.below BB.out)
    have x1 := XX.out.at 1 _ rfl
    by_cases hlt : k < d.ents.length
    · obtain ⟨en, hxk⟩ : ∃ en, d.ents[k]? = some en := ⟨_, List.getElem?_eq_getElem hlt⟩
      have hta := bases_take hxk
      have hfl := bases_le (d.ents.take k)
      rw [List.length_take] at hfl
      have e2 := AE0.out.below BB.out
      obtain ⟨gE, pE, rfl, hg, hkn, c1, _⟩ := e2.nth hxk
      have hel := e2.len
      have hes : en.1.size ≤ maxLen := (HK.out.1.2.1 en (List.mem_of_getElem? hxk)).1
      have hbk : d.ents.length ≤ 1048576 := by
        have := HK.out.2
        unfold bulk bulkE at this
        rw [List.length_map] at this
        omega
      obtain ⟨nm, eid⟩ := en
      unfold maxLen at hes
      have CN := Lib.hid (fun w => specRn_any nm w (by first | exact hes | omega))
      have htb : bases (d.ents.take (k + 1)) = if (rn nm).1 = 1 then insB (bases (d.ents.take k)) (rn nm).2 else bases (d.ents.take k) := hta
      obtain ⟨⟨q1, q2⟩, hq⟩ : ∃ q, rn nm = q := ⟨_, rfl⟩
      unfold rnV at CN
      rw [hq] at CN htb
      have htc : bases (d.ents.take (k + 1)) = if q1 = 1 then insB (bases (d.ents.take k)) q2 else bases (d.ents.take k) := htb
      clear hta htb
      obtain ⟨ps, hps⟩ : ∃ ps, (bases (d.ents.take k)) = ps := ⟨_, rfl⟩
      rw [hps] at htc hfl OO ⊢
      have HT := Lib.hid htc
      clear htc
      have HG := Lib.hid hg
      have hfl : ps.length ≤ 1048576 := by omega
      have i0 : (0 : Int) ≤ (k : Int) := by omega
      have i1' : (k : Int) < (d.ents.length : Int) := by omega
      subst hel
      clear hq hxk hps e2
      go_wp2_with (fail)
      refine (CN.out _).mono ?_
      rintro e w2 ⟨rfl, b2⟩
      have B2 := Lib.hid (BB.out.trans (b2.mono BB.out.size))
      have O2 := Lib.hid (own_below OO.out b2)
      clear b2 x1 c1
      by_cases h1 : q1 = 1
      · subst h1
        rw [if_pos rfl] at HT
        have A2 := Lib.hid (ints.At.of_own O2.out)
        go_wp2
        go_loopw [7] (fun at' wr => ∃ j : Nat, j ≤ ps.length ∧ at' = .int .i64 j ∧ Hid (atB ps q2 ps.length = atB ps q2 j) ∧ w2 = wr) (fun at' _ => (intOf at').toNat)
        case atStart => exact ⟨ps.length, Nat.le_refl _, rfl, Lib.hid rfl, rfl⟩
        case round =>
          obtain ⟨j, hj, rfl, HA, rfl⟩ := hrel
          cases j with
          | zero =>
            have HI := Lib.hid (show insB ps q2 = ps.take (0) ++ [q2] ++ ps.drop (0) by unfold insB; rw [HA.out]; rfl)
            have al := (Below.refl w2.heap.size w2).alloc (Nat.le_refl _) (.cells #[] 3)
            have BXA := Lib.hid al
            have MADE := Lib.hid (World.ownsRow_made (base := w2.heap.size) (e := 3) (size := 1) w2 #[] 0 (Nat.le_refl _) (by decide) rfl)
            have MSZ := Lib.hid al.size
            have PA : Hid (Cells _ (some ⟨g, 0, none⟩) (0) 1 ((ps.take (0)).map (Value.int .i64))) := Lib.hid (cells_part (A2.out.below al) 0 (0) (by omega))
            have PB : Hid (∀ w', Below w2.heap.size w2 w' → Cells w' (some ⟨g, 0, none⟩) (ps.length - (0)) 1 ((ps.drop (0)).map (Value.int .i64))) := Lib.hid (fun w' hb => by
              have h := cells_part (A2.out.below hb) (0) (ps.length - (0)) (by omega)
              rwa [List.take_of_length_le (by rw [List.length_drop]; omega)] at h)
            clear al
            go_wp2_with (first | (at_builtin; refine recs.list_copy (by rfl) (.tmp 44) (.tmp 47) 31 (by rfl) w2.heap.size 3 i1 (.int .i64 0) 1 8 Tryz.underlying31 gi gz0 gz1 gz2 (by rfl) (by decide) _ 0 [] MADE.out MSZ.out (some ⟨g, 0, none⟩) (0) c _ PA.out (oneI _) (by unfold maxLen; omega) (by omega) (by rfl) (by rfl) ?_; intro v3 w3 o3 g3; have o3 : w3.ownsRow w2.heap.size 3 1 v3 (0) ((ps.take (0)).map (Value.int .i64)) := (by simpa using o3); obtain ⟨a3, c3, rfl, _, _, _⟩ := own_form o3; have BX3 := Lib.hid (BXA.out.grown g3 MSZ.out (fun q hq => (sc.own_block_ge MADE.out q hq).1))) | (at_builtin; refine sc.list_app3 (by rfl) (.tmp 48) (.tmp 50) 31 (by rfl) w2.heap.size w3 3 i1 (.int .i64 0) 8 Tryz.underlying31 gi gz0 gz1 gz2 (by rfl) _ (0) _ o3 BX3.out.size [.int .i64 q2] 1 (by rfl) (by simp [Value.oneCell']) (by unfold maxLen; omega) (by omega) (by rfl) (by rfl) (by rfl) ?_; intro v4 w4 o4 g4; obtain ⟨a4, c4, rfl, _, _, _⟩ := own_form o4; have BX4 := Lib.hid (BX3.out.grown g4 BX3.out.size (fun q hq => (sc.own_block_ge o3 q hq).1)); have PB4 := Lib.hid (PB.out w4 BX4.out)) | (at_builtin; refine recs.list_copy (by rfl) (.tmp 52) (.tmp 55) 31 (by rfl) w2.heap.size 3 i1 (.int .i64 0) 1 8 Tryz.underlying31 gi gz0 gz1 gz2 (by rfl) (by decide) _ (0 + 1) _ o4 BX4.out.size (some ⟨g, 0, none⟩) (ps.length - (0)) (c - (0)) _ PB4.out (oneI _) (by unfold maxLen; omega) (by omega) (by rfl) (by rfl) ?_; intro v5 w5 o5 g5; have BX5 := Lib.hid (BX4.out.grown g5 BX4.out.size (fun q hq => (sc.own_block_ge o4 q hq).1))) | fail)
            have o5 : w5.ownsRow w2.heap.size 3 1 v5 (bases (d.ents.take (k + 1))).length ((bases (d.ents.take (k + 1))).map (Value.int .i64)) := by
              rw [HT.out, HI.out]
              have e : (ps.take (0) ++ [q2] ++ ps.drop (0)).length = 0 + 1 + (ps.length - (0)) := by
                rw [List.length_append, List.length_append, List.length_take, List.length_drop, Nat.min_eq_left (by omega)]
                rfl
              rw [e, List.map_append, List.map_append]
              exact o5
            have hpos : ∃ z, (bases (d.ents.take (k + 1))).length = z + 1 := ⟨ps.length, by rw [HT.out, insB_length]⟩
            obtain ⟨z, hz⟩ := hpos
            have o5' := o5
            rw [hz] at o5'
            obtain ⟨g5', cap5, rfl⟩ := own_succ o5'
            have O5 := Lib.hid (own_base o5 (show W.heap.size ≤ w2.heap.size from B2.out.size))
            have B5 := Lib.hid (B2.out.trans (BX5.out.mono B2.out.size))
            have HZ := Lib.hid hz
            clear o5 o5' hz
            go_wp2
            refine ⟨?rel, ?measure⟩
            case rel =>
              have HVV : Value.slice (some ⟨g5', 0, none⟩) (z + 1) cap5 = .slice (some ⟨g5', 0, none⟩) (bases (d.ents.take (k + 1))).length cap5 := by rw [HZ.out]
              have OX : Hid (w5.ownsRow W.heap.size 3 1 (.slice (some ⟨g5', 0, none⟩) (bases (d.ents.take (k + 1))).length cap5) (bases (d.ents.take (k + 1))).length ((bases (d.ents.take (k + 1))).map (Value.int .i64))) := Lib.hid (HVV ▸ O5.out)
              first
                | exact ⟨k + 1, g5', cap5, by omega, by go_num, HVV, OX, B5⟩
                | (iterate 100 (try apply Exists.intro)
                   refine ⟨?r2, rfl⟩
                   exact ⟨k + 1, g5', cap5, by omega, by go_num, HVV, OX, B5⟩)
            case measure => simp [intOf]; omega
          | succ m =>
            obtain ⟨y, hy⟩ : ∃ y, ps[m]? = some y := ⟨_, List.getElem?_eq_getElem (by omega)⟩
            obtain ⟨gq, oq, hgq, _, hcq⟩ := A2.out.2.resolve_left (by omega)
            simp only [Option.some.injEq, Addr.mk.injEq] at hgq
            obtain ⟨rfl, rfl, _⟩ := hgq
            have c1 := hcq m y hy
            rw [Nat.zero_add] at c1
            have em : ((m + 1 : Nat) : Int) - 1 = (m : Int) := by omega
            have im : (m : Int) < (ps.length : Int) := by omega
            have im0 : (0 : Int) ≤ (m : Int) := by omega
            have ip : (0 : Int) < ((m + 1 : Nat) : Int) := by omega
            by_cases hgt : q2 < y
            · have HA1 := Lib.hid (show atB ps q2 ps.length = atB ps q2 m by rw [HA.out]; exact atB_up hy hgt)
              clear hcq hy
              go_wp2
              go_roundw
              case rel => exact ⟨m, by omega, by go_num, HA1, trivial⟩
              case measure => simp [intOf]
            · have hat := atB_here hy hgt
              have HI := Lib.hid (show insB ps q2 = ps.take (m + 1) ++ [q2] ++ ps.drop (m + 1) by unfold insB; rw [HA.out]; rw [hat])
              have al := (Below.refl w2.heap.size w2).alloc (Nat.le_refl _) (.cells #[] 3)
              have BXA := Lib.hid al
              have MADE := Lib.hid (World.ownsRow_made (base := w2.heap.size) (e := 3) (size := 1) w2 #[] 0 (Nat.le_refl _) (by decide) rfl)
              have MSZ := Lib.hid al.size
              have PA : Hid (Cells _ (some ⟨g, 0, none⟩) (m + 1) 1 ((ps.take (m + 1)).map (Value.int .i64))) := Lib.hid (cells_part (A2.out.below al) 0 (m + 1) (by omega))
              have PB : Hid (∀ w', Below w2.heap.size w2 w' → Cells w' (some ⟨g, m + 1, none⟩) (ps.length - (m + 1)) 1 ((ps.drop (m + 1)).map (Value.int .i64))) := Lib.hid (fun w' hb => by
                have h := cells_part (A2.out.below hb) (m + 1) (ps.length - (m + 1)) (by omega)
                rwa [List.take_of_length_le (by rw [List.length_drop]; omega)] at h)
              clear al
              clear hcq hy hat
              have hcap : ps.length ≤ c := by
                rcases O2.out.2 with ⟨h, _⟩ | ⟨g', cap, cur, h, _, _, hn, hcm, _⟩
                · cases h
                · cases h; omega
              by_cases hcm : c = m + 1
              · have PBz : Hid (∀ w', Below w2.heap.size w2 w' → Cells w' (some ⟨g, 0, none⟩) 0 1 ((ps.drop (m + 1)).map (Value.int .i64))) := Lib.hid (fun w' _ => ⟨by rw [List.length_map, List.length_drop]; omega, .inl rfl⟩)
                subst hcm
                go_wp2_with (first | (at_builtin; refine recs.list_copy (by rfl) (.tmp 44) (.tmp 47) 31 (by rfl) w2.heap.size 3 i1 (.int .i64 0) 1 8 Tryz.underlying31 gi gz0 gz1 gz2 (by rfl) (by decide) _ 0 [] MADE.out MSZ.out (some ⟨g, 0, none⟩) (m + 1) (m + 1) _ PA.out (oneI _) (by unfold maxLen; omega) (by omega) (by rfl) (by rfl) ?_; intro v3 w3 o3 g3; have o3 : w3.ownsRow w2.heap.size 3 1 v3 (m + 1) ((ps.take (m + 1)).map (Value.int .i64)) := (by simpa using o3); obtain ⟨a3, c3, rfl, _, _, _⟩ := own_form o3; have BX3 := Lib.hid (BXA.out.grown g3 MSZ.out (fun q hq => (sc.own_block_ge MADE.out q hq).1))) | (at_builtin; refine sc.list_app3 (by rfl) (.tmp 48) (.tmp 50) 31 (by rfl) w2.heap.size w3 3 i1 (.int .i64 0) 8 Tryz.underlying31 gi gz0 gz1 gz2 (by rfl) _ (m + 1) _ o3 BX3.out.size [.int .i64 q2] 1 (by rfl) (by simp [Value.oneCell']) (by unfold maxLen; omega) (by omega) (by rfl) (by rfl) (by rfl) ?_; intro v4 w4 o4 g4; obtain ⟨a4, c4, rfl, _, _, _⟩ := own_form o4; have BX4 := Lib.hid (BX3.out.grown g4 BX3.out.size (fun q hq => (sc.own_block_ge o3 q hq).1)); have PB4 := Lib.hid (PBz.out w4 BX4.out)) | (at_builtin; refine recs.list_copy (by rfl) (.tmp 52) (.tmp 55) 31 (by rfl) w2.heap.size 3 i1 (.int .i64 0) 1 8 Tryz.underlying31 gi gz0 gz1 gz2 (by rfl) (by decide) _ (m + 1 + 1) _ o4 BX4.out.size (some ⟨g, 0, none⟩) 0 _ _ PB4.out (oneI _) (by unfold maxLen; omega) (by omega) (by rfl) (by rfl) ?_; intro v5 w5 o5 g5; have BX5 := Lib.hid (BX4.out.grown g5 BX4.out.size (fun q hq => (sc.own_block_ge o4 q hq).1))) | fail)
                have o5 : w5.ownsRow w2.heap.size 3 1 v5 (bases (d.ents.take (k + 1))).length ((bases (d.ents.take (k + 1))).map (Value.int .i64)) := by
                  rw [HT.out, HI.out]
                  have e : (ps.take (m + 1) ++ [q2] ++ ps.drop (m + 1)).length = m + 1 + 1 + (ps.length - (m + 1)) := by
                    rw [List.length_append, List.length_append, List.length_take, List.length_drop, Nat.min_eq_left (by omega)]
                    rfl
                  rw [e, List.map_append, List.map_append]
                  rw [show ps.length - (m + 1) = 0 by omega]
                  exact o5
                have hpos : ∃ z, (bases (d.ents.take (k + 1))).length = z + 1 := ⟨ps.length, by rw [HT.out, insB_length]⟩
                obtain ⟨z, hz⟩ := hpos
                have o5' := o5
                rw [hz] at o5'
                obtain ⟨g5', cap5, rfl⟩ := own_succ o5'
                have O5 := Lib.hid (own_base o5 (show W.heap.size ≤ w2.heap.size from B2.out.size))
                have B5 := Lib.hid (B2.out.trans (BX5.out.mono B2.out.size))
                have HZ := Lib.hid hz
                clear o5 o5' hz
                go_wp2
                refine ⟨?rel, ?measure⟩
                case rel =>
                  have HVV : Value.slice (some ⟨g5', 0, none⟩) (z + 1) cap5 = .slice (some ⟨g5', 0, none⟩) (bases (d.ents.take (k + 1))).length cap5 := by rw [HZ.out]
                  have OX : Hid (w5.ownsRow W.heap.size 3 1 (.slice (some ⟨g5', 0, none⟩) (bases (d.ents.take (k + 1))).length cap5) (bases (d.ents.take (k + 1))).length ((bases (d.ents.take (k + 1))).map (Value.int .i64))) := Lib.hid (HVV ▸ O5.out)
                  first
                    | exact ⟨k + 1, g5', cap5, by omega, by go_num, HVV, OX, B5⟩
                    | (iterate 100 (try apply Exists.intro)
                       refine ⟨?r2, rfl⟩
                       exact ⟨k + 1, g5', cap5, by omega, by go_num, HVV, OX, B5⟩)
                case measure => simp [intOf]; omega
              · go_wp2_with (first | (at_builtin; refine recs.list_copy (by rfl) (.tmp 44) (.tmp 47) 31 (by rfl) w2.heap.size 3 i1 (.int .i64 0) 1 8 Tryz.underlying31 gi gz0 gz1 gz2 (by rfl) (by decide) _ 0 [] MADE.out MSZ.out (some ⟨g, 0, none⟩) (m + 1) c _ PA.out (oneI _) (by unfold maxLen; omega) (by omega) (by rfl) (by rfl) ?_; intro v3 w3 o3 g3; have o3 : w3.ownsRow w2.heap.size 3 1 v3 (m + 1) ((ps.take (m + 1)).map (Value.int .i64)) := (by simpa using o3); obtain ⟨a3, c3, rfl, _, _, _⟩ := own_form o3; have BX3 := Lib.hid (BXA.out.grown g3 MSZ.out (fun q hq => (sc.own_block_ge MADE.out q hq).1))) | (at_builtin; refine sc.list_app3 (by rfl) (.tmp 48) (.tmp 50) 31 (by rfl) w2.heap.size w3 3 i1 (.int .i64 0) 8 Tryz.underlying31 gi gz0 gz1 gz2 (by rfl) _ (m + 1) _ o3 BX3.out.size [.int .i64 q2] 1 (by rfl) (by simp [Value.oneCell']) (by unfold maxLen; omega) (by omega) (by rfl) (by rfl) (by rfl) ?_; intro v4 w4 o4 g4; obtain ⟨a4, c4, rfl, _, _, _⟩ := own_form o4; have BX4 := Lib.hid (BX3.out.grown g4 BX3.out.size (fun q hq => (sc.own_block_ge o3 q hq).1)); have PB4 := Lib.hid (PB.out w4 BX4.out)) | (at_builtin; refine recs.list_copy (by rfl) (.tmp 52) (.tmp 55) 31 (by rfl) w2.heap.size 3 i1 (.int .i64 0) 1 8 Tryz.underlying31 gi gz0 gz1 gz2 (by rfl) (by decide) _ (m + 1 + 1) _ o4 BX4.out.size (some ⟨g, m + 1, none⟩) (ps.length - (m + 1)) _ _ PB4.out (oneI _) (by unfold maxLen; omega) (by omega) (by rfl) (by rfl) ?_; intro v5 w5 o5 g5; have BX5 := Lib.hid (BX4.out.grown g5 BX4.out.size (fun q hq => (sc.own_block_ge o4 q hq).1))) | fail)
                have o5 : w5.ownsRow w2.heap.size 3 1 v5 (bases (d.ents.take (k + 1))).length ((bases (d.ents.take (k + 1))).map (Value.int .i64)) := by
                  rw [HT.out, HI.out]
                  have e : (ps.take (m + 1) ++ [q2] ++ ps.drop (m + 1)).length = m + 1 + 1 + (ps.length - (m + 1)) := by
                    rw [List.length_append, List.length_append, List.length_take, List.length_drop, Nat.min_eq_left (by omega)]
                    rfl
                  rw [e, List.map_append, List.map_append]
                  exact o5
                have hpos : ∃ z, (bases (d.ents.take (k + 1))).length = z + 1 := ⟨ps.length, by rw [HT.out, insB_length]⟩
                obtain ⟨z, hz⟩ := hpos
                have o5' := o5
                rw [hz] at o5'
                obtain ⟨g5', cap5, rfl⟩ := own_succ o5'
                have O5 := Lib.hid (own_base o5 (show W.heap.size ≤ w2.heap.size from B2.out.size))
                have B5 := Lib.hid (B2.out.trans (BX5.out.mono B2.out.size))
                have HZ := Lib.hid hz
                clear o5 o5' hz
                go_wp2
                refine ⟨?rel, ?measure⟩
                case rel =>
                  have HVV : Value.slice (some ⟨g5', 0, none⟩) (z + 1) cap5 = .slice (some ⟨g5', 0, none⟩) (bases (d.ents.take (k + 1))).length cap5 := by rw [HZ.out]
                  have OX : Hid (w5.ownsRow W.heap.size 3 1 (.slice (some ⟨g5', 0, none⟩) (bases (d.ents.take (k + 1))).length cap5) (bases (d.ents.take (k + 1))).length ((bases (d.ents.take (k + 1))).map (Value.int .i64))) := Lib.hid (HVV ▸ O5.out)
                  first
                    | exact ⟨k + 1, g5', cap5, by omega, by go_num, HVV, OX, B5⟩
                    | (iterate 100 (try apply Exists.intro)
                       refine ⟨?r2, rfl⟩
                       exact ⟨k + 1, g5', cap5, by omega, by go_num, HVV, OX, B5⟩)
                case measure => simp [intOf]; omega
      · have g1 : (q1 == 1) = false := by rw [beq_eq_false_iff_ne]; exact h1
        rw [if_neg h1] at HT
        have g2 : ¬ q1 = 1 := h1
        go_wp2
        refine ⟨?rel, ?measure⟩
        case rel =>
          have HX : Hid (w2.ownsRow W.heap.size 3 1 (.slice (some ⟨g, 0, none⟩) (bases (d.ents.take (k + 1))).length c) (bases (d.ents.take (k + 1))).length ((bases (d.ents.take (k + 1))).map (Value.int .i64))) := by
            rw [HT.out]
            exact O2
          have HV' : Value.slice (some ⟨g, 0, none⟩) ps.length c = .slice (some ⟨g, 0, none⟩) (bases (d.ents.take (k + 1))).length c := by rw [HT.out]
          first
            | exact ⟨k + 1, g, c, by omega, by go_num, HV', HX, B2⟩
            | (iterate 100 (try apply Exists.intro)
               refine ⟨?r2, rfl⟩
               exact ⟨k + 1, g, c, by omega, by go_num, HV', HX, B2⟩)
        case measure => simp [intOf]; omega
    · obtain rfl : k = d.ents.length := by omega
      have HE := Lib.hid (show bases d.ents = bases (d.ents.take d.ents.length) by rw [List.take_of_length_le (Nat.le_refl _)])
      obtain ⟨ps, hps⟩ : ∃ ps, bases (d.ents.take d.ents.length) = ps := ⟨_, rfl⟩
      rw [hps] at HE OO ⊢
      clear hps
      have hel := (AE0.out.below BB.out).len
      subst hel
      go_wp2
      go_ret
      rw [HE.out]
      exact ⟨_, rfl, own_base OO.out (by have := B0.out.size; omega), B0.out.trans (BB.out.mono B0.out.size)⟩

end Go.Proofs.YtiehfobcbhgfkaaGreatDoor.row
