/-
  Contracts of spec's disks: DiskNew, EntryAt, l06Has, l05Node, NodeAt, UsedOn, FileNames, ReadFile.
-/
import Derived.Test.YtgcpgoehnjkpbaaGreatDoorDkMath
namespace Go.Proofs.YtgcpgoehnjkpbaaGreatDoor.disk
open Go.RowKit
open kit strs recs

theorem specDiskNew (room : Int) (w : World) :
    Calls Tryz.prog 145 #[.int .i64 room] w fun e w' => e = .returned (.agg #[.slice none 0 0, .slice none 0 0, .slice none 0 0, .slice none 0 0, .int .i64 (if room < 0 then 0 else room), .int .i64 1]) ∧ Below w.heap.size w w' := by
  by_cases h : room < 0
  · rw [if_pos h]
    go_enter Tryz.func145, Tryz.ntmps145
    go_wp2
    refine bodyPost_ret (v := .agg #[.slice none 0 0, .slice none 0 0, .slice none 0 0, .slice none 0 0, .int .i64 0, .int .i64 1]) (by simp [results, Tryz.results145, go_sem]) rfl ⟨rfl, (Below.refl _ _).alloc (Nat.le_refl _) _⟩
  · rw [if_neg h]
    go_enter Tryz.func145, Tryz.ntmps145
    go_wp2
    refine bodyPost_ret (v := .agg #[.slice none 0 0, .slice none 0 0, .slice none 0 0, .slice none 0 0, .int .i64 room, .int .i64 1]) (by simp [results, Tryz.results145, go_sem]) rfl ⟨rfl, (Below.refl _ _).alloc (Nat.le_refl _) _⟩

set_option maxHeartbeats 400000 in
theorem specEntryAt (a : Option Addr) (c n : Nat) (xs : List Ent) (s : ByteArray) (w : World) (hm : n ≤ maxLen) (ha : AtE w a n xs) :
    Calls Tryz.prog 85 #[.slice a n c, .string s] w fun e w' => e = .returned (.int .i64 (idE xs s)) ∧ w = w' := by
  unfold maxLen at hm
  have HA := Lib.hid ha
  clear ha
  go_enter Tryz.func85, Tryz.ntmps85
  go_wp2
  go_loopw [5] (fun i wr => ∃ k : Nat, k ≤ n ∧ i = .int .i64 k ∧ Hid (entAt xs s = entAt (xs.drop k) s) ∧ wr = w) (fun i _ => n - (intOf i).toNat)
  case atStart => exact ⟨0, Nat.zero_le _, rfl, rfl, rfl⟩
  case round =>
    obtain ⟨k, hk, rfl, hf, rfl⟩ := hrel
    by_cases hlt : k < n
    · obtain ⟨t, i, g, o, hx, rfl, hg, c1, c2⟩ := HA.out.get hlt
      have i0 : (0 : Int) ≤ (k : Int) := by omega
      have i1 : (k : Int) < (n : Int) := by omega
      by_cases e : t = s
      · have HE := Lib.hid (show idE xs s = i by unfold idE; rw [hf.out, entAt_yes hx e]; rfl)
        have hs := bytes_eq e
        clear hx e
        go_wp2
        go_ret
        exact ⟨by rw [HE.out]; rfl, rfl⟩
      · have HE := Lib.hid (hf.out.trans (entAt_no hx e))
        have hs := bytes_ne e
        clear hx e
        go_wp2
        go_roundw
        case rel => exact ⟨k + 1, by omega, by go_num, HE, trivial⟩
        case measure => simp [intOf]; omega
    · obtain rfl : k = n := by omega
      have HE := Lib.hid (show idE xs s = 0 by unfold idE; rw [hf.out, drop_end HA.out.len]; rfl)
      go_wp2
      go_ret
      exact ⟨by rw [HE.out]; rfl, rfl⟩

set_option maxHeartbeats 400000 in
theorem specHas (a : Option Addr) (c n : Nat) (xs : List Ent) (s : ByteArray) (w : World) (hm : n ≤ maxLen) (ha : AtE w a n xs) :
    Calls Tryz.prog 83 #[.slice a n c, .string s] w fun e w' => e = .returned (.bool (hasE xs s)) ∧ w = w' := by
  unfold maxLen at hm
  have HA := Lib.hid ha
  clear ha
  go_enter Tryz.func83, Tryz.ntmps83
  go_wp2
  go_loopw [5] (fun i wr => ∃ k : Nat, k ≤ n ∧ i = .int .i64 k ∧ Hid (entAt xs s = entAt (xs.drop k) s) ∧ wr = w) (fun i _ => n - (intOf i).toNat)
  case atStart => exact ⟨0, Nat.zero_le _, rfl, rfl, rfl⟩
  case round =>
    obtain ⟨k, hk, rfl, hf, rfl⟩ := hrel
    by_cases hlt : k < n
    · obtain ⟨t, i, g, o, hx, rfl, hg, c1, c2⟩ := HA.out.get hlt
      have i0 : (0 : Int) ≤ (k : Int) := by omega
      have i1 : (k : Int) < (n : Int) := by omega
      by_cases e : t = s
      · have HE := Lib.hid (show hasE xs s = true by unfold hasE; rw [hf.out, entAt_yes hx e]; rfl)
        have hs := bytes_eq e
        clear hx e
        go_wp2
        go_ret
        exact ⟨by rw [HE.out]; rfl, rfl⟩
      · have HE := Lib.hid (hf.out.trans (entAt_no hx e))
        have hs := bytes_ne e
        clear hx e
        go_wp2
        go_roundw
        case rel => exact ⟨k + 1, by omega, by go_num, HE, trivial⟩
        case measure => simp [intOf]; omega
    · obtain rfl : k = n := by omega
      have HE := Lib.hid (show hasE xs s = false by unfold hasE; rw [hf.out, drop_end HA.out.len]; rfl)
      go_wp2
      go_ret
      exact ⟨by rw [HE.out]; rfl, rfl⟩

set_option maxHeartbeats 400000 in
theorem specNode (v : Value) (d : D) (id : Int) (w : World) (hm : d.nodes.length ≤ maxLen) (hv : IsDisk w v d) :
    Calls Tryz.prog 84 #[v, .int .i64 id] w fun e w' => e = .returned (.int .i64 (ixI (nodeIx d.nodes id))) ∧ Below w.heap.size w w' := by
  obtain ⟨aN, aE, aO, aS, n, cN, nE, cE, nO, cO, nS, cS, rfl, hN, hE, hO, hS⟩ := hv
  rw [hN.len] at hm
  unfold maxLen at hm
  have HN := Lib.hid (hN.below (w' := w.alloc (.cells #[.slice aN n cN, .slice aE nE cE, .slice aO nO cO, .slice aS nS cS, .int .i64 d.room, .int .i64 d.next] 28)) ((Below.refl _ _).alloc (Nat.le_refl _) _))
  clear hN hE hO hS
  go_enter Tryz.func84, Tryz.ntmps84
  go_wp2
  obtain ⟨W, hW⟩ : ∃ W, W = w.alloc (.cells #[.slice aN n cN, .slice aE nE cE, .slice aO nO cO, .slice aS nS cS, .int .i64 d.room, .int .i64 d.next] 28) := ⟨_, rfl⟩
  have x0 : W.cell? ⟨w.heap.size, 0, none⟩ = some (.slice aN n cN) := by rw [hW]; simp
  have hB := Lib.hid (show Below w.heap.size w W by rw [hW]; exact (Below.refl _ _).alloc (Nat.le_refl _) _)
  rw [← hW] at HN ⊢
  clear hW
  go_loopw [5] (fun i wr => ∃ k : Nat, k ≤ n ∧ i = .int .i64 k ∧ Hid (nodeIx d.nodes id = (nodeIx (d.nodes.drop k) id).map (· + k)) ∧ wr = W) (fun i _ => n - (intOf i).toNat)
  case atStart => exact ⟨0, Nat.zero_le _, rfl, Lib.hid (by simp), rfl⟩
  case round =>
    obtain ⟨k, hk, rfl, hf, rfl⟩ := hrel
    by_cases hlt : k < n
    · obtain ⟨i, t, j, g, o, hx, rfl, hg, c1, c2, c3⟩ := HN.out.get hlt
      have i0 : (0 : Int) ≤ (k : Int) := by omega
      have i1 : (k : Int) < (n : Int) := by omega
      by_cases e : i = id
      · have HE := Lib.hid (show ixI (nodeIx d.nodes id) = (k : Int) by rw [hf.out, nodeIx_yes hx e]; simp [ixI])
        clear hx
        subst e
        go_wp2
        go_ret
        exact ⟨by rw [HE.out]; rfl, hB.out⟩
      · have HE := Lib.hid (show nodeIx d.nodes id = (nodeIx (d.nodes.drop (k + 1)) id).map (· + (k + 1)) by
          rw [hf.out, nodeIx_no hx e, Option.map_map]
          congr 1
          funext y
          simp
          omega)
        have hs : (i == id) = false := by simpa using e
        clear hx
        go_wp2
        go_roundw
        case rel => exact ⟨k + 1, by omega, by go_num, HE, trivial⟩
        case measure => simp [intOf]; omega
    · obtain rfl : k = n := by omega
      have HE := Lib.hid (show ixI (nodeIx d.nodes id) = -1 by rw [hf.out, drop_end HN.out.len]; rfl)
      go_wp2
      go_ret
      exact ⟨by rw [HE.out]; rfl, hB.out⟩

end Go.Proofs.YtgcpgoehnjkpbaaGreatDoor.disk
