/-
  UnsureOn and CalmDisk, spec's and the program's.
-/
import Derived.Test.YtdacdbidennjhaaGreatDoorDuM
import Derived.Test.YtdacdbidennjhaaGreatDoorIkX
namespace Go.Proofs.YtdacdbidennjhaaGreatDoor.fall
open Go.RowKit
open kit strs recs disk deed kd

set_option maxHeartbeats 2000000 in
set_option maxRecDepth 100000 in
theorem specUnsure (v : Value) (d : D) (w : World) (hk : okD d) (hv : IsDisk w v d) :
    Calls Tryz.prog 40 #[v] w fun e w' => e = .returned (.int .i64 (unsureOn d : Nat)) ∧ Below w.heap.size w w' := by
  obtain ⟨l1, l2, l3, l4⟩ := okL_lens (okD.loose hk)
  have hv0 := hv
  obtain ⟨aN, aE, aO, aS, nN, cN, nE, cE, nO, cO, nS, cS, rfl, hN, hE, hO, hS⟩ := hv
  have lN := hN.len
  have lS := hS.1
  obtain ⟨W, hW⟩ : ∃ W, W = w.alloc (.cells #[.slice aN nN cN, .slice aE nE cE, .slice aO nO cO, .slice aS nS cS, .int .i64 d.room, .int .i64 d.next] 28) := ⟨_, rfl⟩
  have hWB : Below w.heap.size w W := by rw [hW]; exact (Below.refl _ _).alloc (Nat.le_refl _) _
  have bx := show disk.Box W w.heap.size [.slice aN nN cN, .slice aE nE cE, .slice aO nO cO, .slice aS nS cS, .int .i64 d.room, .int .i64 d.next] from by rw [hW]; exact Box.new _ _ _
  have CK := Lib.hid ((specDiskOk _ d W (okD.loose hk) (hv0.below hWB)))
  have HN := Lib.hid (hN.below hWB)
  have BX := Lib.hid bx
  have HB := Lib.hid hWB
  have HK := Lib.hid hk
  have IV := Lib.hid (hv0.below hWB)
  have x0 := bx.at 0 _ rfl
  have x1 := bx.at 1 _ rfl
  have x2 := bx.at 2 _ rfl
  have x3 := bx.at 3 _ rfl
  have x4 := bx.at 4 _ rfl
  have x5 := bx.at 5 _ rfl
  rw [hW] at x0 x1 x2 x3 x4 x5
  clear hN hE hO hS hWB bx hk hv0
  obtain ⟨R, hR⟩ : ∃ R, R = unsureOn d := ⟨_, rfl⟩
  have HR := Lib.hid hR
  rw [← hR]
  clear hR
  go_enter Tryz.func40, Tryz.ntmps40
  go_wp2_with (fail)
  rw [← hW]
  clear hW x0 x1 x2 x3 x4 x5
  refine CK.out.mono ?_
  rintro e w1 ⟨rfl, hb1⟩
  have HB1 := Lib.hid hb1
  have BX1 := Lib.hid (BX.out.below hb1)
  have HN1 := Lib.hid (HN.out.below hb1)
  have HBB := Lib.hid (HB.out.trans (hb1.mono HB.out.size))
  clear hb1 CK
  cases hdk : diskOk d with
  | false =>
    have HF := Lib.hid (show R = 0 by rw [HR.out]; unfold unsureOn; rw [if_pos hdk])
    go_wp2
    go_ret
    exact ⟨by rw [HF.out]; rfl, HBB.out⟩
  | true =>
    have HNN := Lib.hid (right_uns hdk)
    have HF := Lib.hid (show R = nS + unsT d.nodes by rw [HR.out]; unfold unsureOn; rw [if_neg (by rw [hdk]; simp), lS])
    have HT := Lib.hid (show unsT d.nodes ≤ 1048576 by have h1 := unsT_le d.nodes; have h2 := used_le HK.out.2; unfold usedOn at h2; omega)
    have x3 := BX1.out.at 3 _ rfl
    have x0 := BX1.out.at 0 _ rfl
    clear hdk
    go_wp2
    clear x3 x0
    go_loopw [3, 4] (fun x i wr => ∃ k m : Nat, k ≤ nN ∧ i = .int .i64 k ∧ x = .int .i64 m ∧ Hid (m = nS + unsT (d.nodes.take k) ∧ unsT (d.nodes.take k) ≤ 1048576) ∧ Below w1.heap.size w1 wr) (fun _ i _ => nN - (intOf i).toNat)
    case atStart => exact ⟨0, nS, Nat.zero_le _, rfl, rfl, Lib.hid (by simp [unsT]), Below.refl _ _⟩
    case round =>
      obtain ⟨k, m, hk, rfl, rfl, hf, hb⟩ := hrel
      have x0 := (BX1.out.below hb).at 0 _ rfl
      by_cases hlt : k < nN
      · obtain ⟨i, t, j, g, o, hx, rfl, hg, c1, c2, c3⟩ := (HN1.out.below hb).get hlt
        have hj := HNN.out _ (List.mem_of_getElem? hx)
        have i0 : (0 : Int) ≤ (k : Int) := by omega
        have i1 : (k : Int) < (nN : Int) := by omega
        have HS := Lib.hid (unsT_snoc hx)
        have hts : t.size ≤ 1048576 := by
          have h1 := tot_each (d.nodes.map (·.2.1)) t (List.mem_map.2 ⟨_, List.mem_of_getElem? hx, rfl⟩)
          have h2 := used_le HK.out.2
          unfold usedOn at h2
          omega
        have hm := hf.out.1
        have hm2 := hf.out.2
        have hle : unsT (d.nodes.take (k + 1)) ≤ 1048576 := Nat.le_trans (unsT_le _) (Nat.le_trans (tot_take_le d.nodes (k + 1)) (by have h2 := used_le HK.out.2; unfold usedOn at h2; exact h2))
        obtain ⟨z, hz⟩ : ∃ z : Nat, z = t.size - j.toNat := ⟨_, rfl⟩
        have hj1 : 0 ≤ j := hj.1
        have hj2 : j ≤ (t.size : Int) := hj.2
        have hv : (m : Int) + (t.size : Int) - j = ((m + z : Nat) : Int) := by omega
        have q1 : (0 : Int) ≤ (m : Int) + (t.size : Int) := by omega
        have q2 : (m : Int) + (t.size : Int) ≤ 9223372036854775807 := by omega
        have q3 : (0 : Int) ≤ (m : Int) + (t.size : Int) - j := by omega
        have q4 : (m : Int) + (t.size : Int) - j ≤ 9223372036854775807 := by omega
        have HV := Lib.hid hv
        have HZ := Lib.hid (show m + z = nS + unsT (d.nodes.take (k + 1)) ∧ unsT (d.nodes.take (k + 1)) ≤ 1048576 by
          refine ⟨?_, hle⟩
          have e : uns ((i, t, j) : Nod) = t.size - j.toNat := rfl
          rw [HS.out, e]
          omega)
        clear hx hts hm hm2 hle hz hj hj1 hj2 hf hv
        go_wp2
        go_quiet (fail)
        go_wp2
        go_roundw
        case rel => exact ⟨k + 1, m + z, by omega, by go_num, by rw [HV.out], HZ, below_drewN hb _⟩
        case measure => simp [intOf]; omega
      · obtain rfl : k = nN := by omega
        have HE := Lib.hid (show R = m by rw [HF.out, hf.out.1, List.take_of_length_le (by rw [HN1.out.len]; exact Nat.le_refl _)])
        go_wp2
        go_ret
        exact ⟨by rw [HE.out]; rfl, HBB.out.trans (hb.mono HBB.out.size)⟩

set_option maxHeartbeats 2000000 in
set_option maxRecDepth 100000 in
theorem implUnsure (v : Value) (d : D) (w : World) (hk : okD d) (hv : IsDisk w v d) (hg : ik.GD w) :
    Calls Tryz.prog 39 #[v] w fun e w' => e = .returned (.int .i64 (unsureOn d : Nat)) ∧ Below w.heap.size w w' := by
  obtain ⟨l1, l2, l3, l4⟩ := okL_lens (okD.loose hk)
  have hv0 := hv
  obtain ⟨aN, aE, aO, aS, nN, cN, nE, cE, nO, cO, nS, cS, rfl, hN, hE, hO, hS⟩ := hv
  have lN := hN.len
  have lS := hS.1
  obtain ⟨W, hW⟩ : ∃ W, W = w.alloc (.cells #[.slice aN nN cN, .slice aE nE cE, .slice aO nO cO, .slice aS nS cS, .int .i64 d.room, .int .i64 d.next] 28) := ⟨_, rfl⟩
  have hWB : Below w.heap.size w W := by rw [hW]; exact (Below.refl _ _).alloc (Nat.le_refl _) _
  have bx := show disk.Box W w.heap.size [.slice aN nN cN, .slice aE nE cE, .slice aO nO cO, .slice aS nS cS, .int .i64 d.room, .int .i64 d.next] from by rw [hW]; exact Box.new _ _ _
  have CK := Lib.hid ((ik.implDiskOk _ d W hk (hv0.below hWB) (hg.below hWB)))
  have HN := Lib.hid (hN.below hWB)
  have BX := Lib.hid bx
  have HB := Lib.hid hWB
  have HK := Lib.hid hk
  have IV := Lib.hid (hv0.below hWB)
  have x0 := bx.at 0 _ rfl
  have x1 := bx.at 1 _ rfl
  have x2 := bx.at 2 _ rfl
  have x3 := bx.at 3 _ rfl
  have x4 := bx.at 4 _ rfl
  have x5 := bx.at 5 _ rfl
  rw [hW] at x0 x1 x2 x3 x4 x5
  clear hN hE hO hS hWB bx hk hv0 hg
  obtain ⟨R, hR⟩ : ∃ R, R = unsureOn d := ⟨_, rfl⟩
  have HR := Lib.hid hR
  rw [← hR]
  clear hR
  go_enter Tryz.func39, Tryz.ntmps39
  go_wp2_with (fail)
  rw [← hW]
  clear hW x0 x1 x2 x3 x4 x5
  refine CK.out.mono ?_
  rintro e w1 ⟨rfl, hb1⟩
  have HB1 := Lib.hid hb1
  have BX1 := Lib.hid (BX.out.below hb1)
  have HN1 := Lib.hid (HN.out.below hb1)
  have HBB := Lib.hid (HB.out.trans (hb1.mono HB.out.size))
  clear hb1 CK
  cases hdk : diskOk d with
  | false =>
    have HF := Lib.hid (show R = 0 by rw [HR.out]; unfold unsureOn; rw [if_pos hdk])
    go_wp2
    go_ret
    exact ⟨by rw [HF.out]; rfl, HBB.out⟩
  | true =>
    have HNN := Lib.hid (right_uns hdk)
    have HF := Lib.hid (show R = nS + unsT d.nodes by rw [HR.out]; unfold unsureOn; rw [if_neg (by rw [hdk]; simp), lS])
    have HT := Lib.hid (show unsT d.nodes ≤ 1048576 by have h1 := unsT_le d.nodes; have h2 := used_le HK.out.2; unfold usedOn at h2; omega)
    have x3 := BX1.out.at 3 _ rfl
    have x0 := BX1.out.at 0 _ rfl
    clear hdk
    go_wp2
    clear x3 x0
    go_loopw [3, 15] (fun x i wr => ∃ k m : Nat, k ≤ nN ∧ i = .int .i64 k ∧ x = .int .i64 m ∧ Hid (m = nS + unsT (d.nodes.take k) ∧ unsT (d.nodes.take k) ≤ 1048576) ∧ Below w1.heap.size w1 wr) (fun _ i _ => nN - (intOf i).toNat)
    case atStart => exact ⟨0, nS, Nat.zero_le _, rfl, rfl, Lib.hid (by simp [unsT]), Below.refl _ _⟩
    case round =>
      obtain ⟨k, m, hk, rfl, rfl, hf, hb⟩ := hrel
      have x0 := (BX1.out.below hb).at 0 _ rfl
      by_cases hlt : k < nN
      · obtain ⟨i, t, j, g, o, hx, rfl, hg, c1, c2, c3⟩ := (HN1.out.below hb).get hlt
        have hj := HNN.out _ (List.mem_of_getElem? hx)
        have i0 : (0 : Int) ≤ (k : Int) := by omega
        have i1 : (k : Int) < (nN : Int) := by omega
        have HS := Lib.hid (unsT_snoc hx)
        have hts : t.size ≤ 1048576 := by
          have h1 := tot_each (d.nodes.map (·.2.1)) t (List.mem_map.2 ⟨_, List.mem_of_getElem? hx, rfl⟩)
          have h2 := used_le HK.out.2
          unfold usedOn at h2
          omega
        have hm := hf.out.1
        have hm2 := hf.out.2
        have hle : unsT (d.nodes.take (k + 1)) ≤ 1048576 := Nat.le_trans (unsT_le _) (Nat.le_trans (tot_take_le d.nodes (k + 1)) (by have h2 := used_le HK.out.2; unfold usedOn at h2; exact h2))
        obtain ⟨z, hz⟩ : ∃ z : Nat, z = t.size - j.toNat := ⟨_, rfl⟩
        have hj1 : 0 ≤ j := hj.1
        have hj2 : j ≤ (t.size : Int) := hj.2
        have hv : (m : Int) + ((t.size : Int) - j) = ((m + z : Nat) : Int) := by omega
        have q1 : (0 : Int) ≤ (t.size : Int) - j := by omega
        have q2 : (t.size : Int) - j ≤ 9223372036854775807 := by omega
        have q3 : (0 : Int) ≤ (m : Int) + ((t.size : Int) - j) := by omega
        have q4 : (m : Int) + ((t.size : Int) - j) ≤ 9223372036854775807 := by omega
        have hbl2 := hb.alloc hb.size (.cells #[.int .i64 i, .string t, .int .i64 j] 51)
        have HV := Lib.hid hv
        have HZ := Lib.hid (show m + z = nS + unsT (d.nodes.take (k + 1)) ∧ unsT (d.nodes.take (k + 1)) ≤ 1048576 by
          refine ⟨?_, hle⟩
          have e : uns ((i, t, j) : Nod) = t.size - j.toNat := rfl
          rw [HS.out, e]
          omega)
        clear hx hts hm hm2 hle hz hj hj1 hj2 hf hv
        go_wp2
        go_roundw
        case rel => exact ⟨k + 1, m + z, by omega, by go_num, by rw [HV.out], HZ, hbl2⟩
        case measure => simp [intOf]; omega
      · obtain rfl : k = nN := by omega
        have HE := Lib.hid (show R = m by rw [HF.out, hf.out.1, List.take_of_length_le (by rw [HN1.out.len]; exact Nat.le_refl _)])
        go_wp2
        go_ret
        exact ⟨by rw [HE.out]; rfl, HBB.out.trans (hb.mono HBB.out.size)⟩

set_option maxHeartbeats 2000000 in
set_option maxRecDepth 100000 in
theorem specCalm (v : Value) (d : D) (w : World) (hk : okD d) (hv : IsDisk w v d) :
    Calls Tryz.prog 53 #[v] w fun e w' => e = .returned (.bool (calmB d)) ∧ Below w.heap.size w w' := by
  obtain ⟨l1, l2, l3, l4⟩ := okL_lens (okD.loose hk)
  have hv0 := hv
  obtain ⟨aN, aE, aO, aS, nN, cN, nE, cE, nO, cO, nS, cS, rfl, hN, hE, hO, hS⟩ := hv
  have lN := hN.len
  have lS := hS.1
  obtain ⟨W, hW⟩ : ∃ W, W = w.alloc (.cells #[.slice aN nN cN, .slice aE nE cE, .slice aO nO cO, .slice aS nS cS, .int .i64 d.room, .int .i64 d.next] 28) := ⟨_, rfl⟩
  have hWB : Below w.heap.size w W := by rw [hW]; exact (Below.refl _ _).alloc (Nat.le_refl _) _
  have bx := show disk.Box W w.heap.size [.slice aN nN cN, .slice aE nE cE, .slice aO nO cO, .slice aS nS cS, .int .i64 d.room, .int .i64 d.next] from by rw [hW]; exact Box.new _ _ _
  have CK := Lib.hid ((specDiskOk _ d W (okD.loose hk) (hv0.below hWB)))
  have HN := Lib.hid (hN.below hWB)
  have BX := Lib.hid bx
  have HB := Lib.hid hWB
  have HK := Lib.hid hk
  have IV := Lib.hid (hv0.below hWB)
  have x0 := bx.at 0 _ rfl
  have x1 := bx.at 1 _ rfl
  have x2 := bx.at 2 _ rfl
  have x3 := bx.at 3 _ rfl
  have x4 := bx.at 4 _ rfl
  have x5 := bx.at 5 _ rfl
  rw [hW] at x0 x1 x2 x3 x4 x5
  clear hN hE hO hS hWB bx hk hv0
  obtain ⟨R, hR⟩ : ∃ R, R = calmB d := ⟨_, rfl⟩
  have HR := Lib.hid hR
  rw [← hR]
  clear hR
  go_enter Tryz.func53, Tryz.ntmps53
  go_wp2_with (fail)
  rw [← hW]
  clear hW x0 x1 x2 x3 x4 x5
  refine CK.out.mono ?_
  rintro e w1 ⟨rfl, hb1⟩
  have HB1 := Lib.hid hb1
  have BX1 := Lib.hid (BX.out.below hb1)
  have HN1 := Lib.hid (HN.out.below hb1)
  have HBB := Lib.hid (HB.out.trans (hb1.mono HB.out.size))
  clear hb1 CK
  have x3 := BX1.out.at 3 _ rfl
  have x0 := BX1.out.at 0 _ rfl
  cases hdk : diskOk d with
  | false =>
    have HF := Lib.hid (show R = false by rw [HR.out]; unfold calmB; rw [hdk]; rfl)
    go_wp2
    go_ret
    exact ⟨by rw [HF.out]; rfl, HBB.out⟩
  | true =>
    by_cases h0 : 0 < nS
    · have HF := Lib.hid (show R = false by rw [HR.out]; unfold calmB; rw [decide_eq_false (show ¬ d.steps.length = 0 by omega)]; simp)
      have h1 : (0 : Int) < (nS : Int) := by omega
      go_wp2
      go_ret
      exact ⟨by rw [HF.out]; rfl, HBB.out⟩
    · have HF := Lib.hid (show R = d.nodes.all calmN by rw [HR.out]; unfold calmB; rw [hdk, decide_eq_true (show d.steps.length = 0 by omega)]; rfl)
      have h1 : ¬ (0 : Int) < (nS : Int) := by omega
      clear hdk
      go_wp2
      clear x3 x0 h1 h0
      go_loopw [3] (fun i wr => ∃ k : Nat, k ≤ nN ∧ i = .int .i64 k ∧ Hid (d.nodes.all calmN = (d.nodes.drop k).all calmN) ∧ Below w1.heap.size w1 wr) (fun i _ => nN - (intOf i).toNat)
      case atStart => exact ⟨0, Nat.zero_le _, rfl, Lib.hid (by simp), Below.refl _ _⟩
      case round =>
        obtain ⟨k, hk, rfl, hf, hb⟩ := hrel
        have x0 := (BX1.out.below hb).at 0 _ rfl
        by_cases hlt : k < nN
        · obtain ⟨i, t, j, g, o, hx, rfl, hg, c1, c2, c3⟩ := (HN1.out.below hb).get hlt
          have i0 : (0 : Int) ≤ (k : Int) := by omega
          have i1 : (k : Int) < (nN : Int) := by omega
          by_cases hj : j = (t.size : Int)
          · have HE := Lib.hid (show d.nodes.all calmN = (d.nodes.drop (k + 1)).all calmN by rw [hf.out, drop_cons hx, List.all_cons, show calmN ((i, t, j) : Nod) = true by unfold calmN; simp [hj], Bool.true_and])
            have hjb : (j == (t.size : Int)) = true := by simpa using hj
            clear hx hf hj
            go_wp2
            go_quiet (fail)
            go_wp2
            go_roundw
            case rel => exact ⟨k + 1, by omega, by go_num, HE, below_drewN hb _⟩
            case measure => simp [intOf]; omega
          · have HE := Lib.hid (show R = false by rw [HF.out, hf.out, drop_cons hx, List.all_cons, show calmN ((i, t, j) : Nod) = false by unfold calmN; simp [hj], Bool.false_and])
            have hjb : (j == (t.size : Int)) = false := by simpa using hj
            clear hx hf hj
            go_wp2
            go_quiet (fail)
            go_wp2
            go_ret
            exact ⟨by rw [HE.out]; rfl, HBB.out.trans (below_drewN (hb.mono HBB.out.size) _)⟩
        · obtain rfl : k = nN := by omega
          have HE := Lib.hid (show R = true by rw [HF.out, hf.out, List.drop_of_length_le (by rw [HN1.out.len]; exact Nat.le_refl _)]; rfl)
          go_wp2
          go_ret
          exact ⟨by rw [HE.out]; rfl, HBB.out.trans (hb.mono HBB.out.size)⟩

set_option maxHeartbeats 2000000 in
set_option maxRecDepth 100000 in
theorem implCalm (v : Value) (d : D) (w : World) (hk : okD d) (hv : IsDisk w v d) (hg : ik.GD w) :
    Calls Tryz.prog 33 #[v] w fun e w' => e = .returned (.bool (calmB d)) ∧ Below w.heap.size w w' := by
  obtain ⟨l1, l2, l3, l4⟩ := okL_lens (okD.loose hk)
  have hv0 := hv
  obtain ⟨aN, aE, aO, aS, nN, cN, nE, cE, nO, cO, nS, cS, rfl, hN, hE, hO, hS⟩ := hv
  have lN := hN.len
  have lS := hS.1
  obtain ⟨W, hW⟩ : ∃ W, W = w.alloc (.cells #[.slice aN nN cN, .slice aE nE cE, .slice aO nO cO, .slice aS nS cS, .int .i64 d.room, .int .i64 d.next] 28) := ⟨_, rfl⟩
  have hWB : Below w.heap.size w W := by rw [hW]; exact (Below.refl _ _).alloc (Nat.le_refl _) _
  have bx := show disk.Box W w.heap.size [.slice aN nN cN, .slice aE nE cE, .slice aO nO cO, .slice aS nS cS, .int .i64 d.room, .int .i64 d.next] from by rw [hW]; exact Box.new _ _ _
  have CK := Lib.hid ((ik.implDiskOk _ d W hk (hv0.below hWB) (hg.below hWB)))
  have HN := Lib.hid (hN.below hWB)
  have BX := Lib.hid bx
  have HB := Lib.hid hWB
  have HK := Lib.hid hk
  have IV := Lib.hid (hv0.below hWB)
  have x0 := bx.at 0 _ rfl
  have x1 := bx.at 1 _ rfl
  have x2 := bx.at 2 _ rfl
  have x3 := bx.at 3 _ rfl
  have x4 := bx.at 4 _ rfl
  have x5 := bx.at 5 _ rfl
  rw [hW] at x0 x1 x2 x3 x4 x5
  clear hN hE hO hS hWB bx hk hv0
  have HG := Lib.hid (hg.below HB.out)
  clear hg
  obtain ⟨R, hR⟩ : ∃ R, R = calmB d := ⟨_, rfl⟩
  have HR := Lib.hid (hR.trans (calm_is d))
  rw [← hR]
  clear hR
  go_enter Tryz.func33, Tryz.ntmps33
  go_wp2_with (fail)
  rw [← hW]
  clear hW x0 x1 x2 x3 x4 x5
  refine CK.out.mono ?_
  rintro e w1 ⟨rfl, hb1⟩
  have HB1 := Lib.hid hb1
  have BX1 := Lib.hid (BX.out.below hb1)
  have HN1 := Lib.hid (HN.out.below hb1)
  have HBB := Lib.hid (HB.out.trans (hb1.mono HB.out.size))
  clear hb1 CK
  cases hdk : diskOk d with
  | false =>
    have HF := Lib.hid (show R = false by rw [HR.out, hdk]; rfl)
    go_wp2
    go_ret
    exact ⟨by rw [HF.out]; rfl, HBB.out⟩
  | true =>
    have CU := Lib.hid (implUnsure _ d w1 HK.out (IV.out.below HB1.out) (HG.out.below HB1.out))
    obtain ⟨z, hz⟩ : ∃ z, z = unsureOn d := ⟨_, rfl⟩
    rw [← hz] at CU
    have HF := Lib.hid (show R = decide (z = 0) by rw [HR.out, hdk, ← hz]; rfl)
    have x0 := BX1.out.at 0 _ rfl
    have x1 := BX1.out.at 1 _ rfl
    have x2 := BX1.out.at 2 _ rfl
    have x3 := BX1.out.at 3 _ rfl
    have x4 := BX1.out.at 4 _ rfl
    have x5 := BX1.out.at 5 _ rfl
    clear hdk hz
    go_wp2_with (fail)
    refine CU.out.mono ?_
    rintro e w2 ⟨rfl, hb2⟩
    have HB2 := Lib.hid (HBB.out.trans (hb2.mono HBB.out.size))
    clear hb2 x0 x1 x2 x3 x4 x5
    by_cases hz : z = 0
    · have HE := Lib.hid (show R = true by rw [HF.out, hz]; rfl)
      have hzb : ((z : Int) == 0) = true := by rw [hz]; rfl
      clear hz
      go_wp2
      go_ret
      exact ⟨by rw [HE.out]; rfl, HB2.out⟩
    · have HE := Lib.hid (show R = false by rw [HF.out]; simpa using hz)
      have hzb : ((z : Int) == 0) = false := by simpa using hz
      clear hz
      go_wp2
      go_ret
      exact ⟨by rw [HE.out]; rfl, HB2.out⟩

end Go.Proofs.YtdacdbidennjhaaGreatDoor.fall
