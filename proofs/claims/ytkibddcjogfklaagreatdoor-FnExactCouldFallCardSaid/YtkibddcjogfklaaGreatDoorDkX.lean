/-
  Contracts of spec's disks: DiskNew, EntryAt, l06Has, l05Node, NodeAt, UsedOn, FileNames, ReadFile.
-/
import Derived.Test.YtkibddcjogfklaaGreatDoorDkMath
namespace Go.Proofs.YtkibddcjogfklaaGreatDoor.disk
open Go.RowKit
open kit strs recs

set_option maxHeartbeats 400000 in
theorem specEntryAt (a : Option Addr) (c n : Nat) (xs : List Ent) (s : ByteArray) (w : World) (hm : n ≤ maxLen) (ha : AtE w a n xs) :
    Calls Tryz.prog 57 #[.slice a n c, .string s] w fun e w' => e = .returned (.int .i64 (idE xs s)) ∧ w = w' := by
  unfold maxLen at hm
  have HA := Lib.hid ha
  clear ha
  go_enter Tryz.func57, Tryz.ntmps57
  go_wp2
  go_loopw [5] (fun i wr => ∃ k : Nat, k ≤ n ∧ i = .int .i64 k ∧ Hid (entAt xs s = entAt (xs.drop k) s) ∧ wr = w) (fun i _ => n - (intOf i).toNat)
  case atStart => exact ⟨0, Nat.zero_le _, rfl, rfl, rfl⟩
  case round =>
    obtain ⟨k, hk, rfl, hf, rfl⟩ := hrel
    by_cases hlt : k < n
    · obtain ⟨t, i, g, o, hx, rfl, hg, c1, c2⟩ := HA.out.get hlt
      have i0 : (0 : Int) ≤ (k : Int) := by omega
      have i1 : (k : Int) < (n : Int) := by omega
      by_cases e : t = s
      · have HE := Lib.hid (show idE xs s = i by unfold idE; rw [hf.out, entAt_yes hx e]; rfl)
        have hs := bytes_eq e
        clear hx e
        go_wp2
        go_ret
        exact ⟨by rw [HE.out]; rfl, rfl⟩
      · have HE := Lib.hid (hf.out.trans (entAt_no hx e))
        have hs := bytes_ne e
        clear hx e
        go_wp2
        go_roundw
        case rel => exact ⟨k + 1, by omega, by go_num, HE, trivial⟩
        case measure => simp [intOf]; omega
    · obtain rfl : k = n := by omega
      have HE := Lib.hid (show idE xs s = 0 by unfold idE; rw [hf.out, drop_end HA.out.len]; rfl)
      go_wp2
      go_ret
      exact ⟨by rw [HE.out]; rfl, rfl⟩

set_option maxHeartbeats 400000 in
theorem specHas (a : Option Addr) (c n : Nat) (xs : List Ent) (s : ByteArray) (w : World) (hm : n ≤ maxLen) (ha : AtE w a n xs) :
    Calls Tryz.prog 56 #[.slice a n c, .string s] w fun e w' => e = .returned (.bool (hasE xs s)) ∧ w = w' := by
  unfold maxLen at hm
  have HA := Lib.hid ha
  clear ha
  go_enter Tryz.func56, Tryz.ntmps56
  go_wp2
  go_loopw [5] (fun i wr => ∃ k : Nat, k ≤ n ∧ i = .int .i64 k ∧ Hid (entAt xs s = entAt (xs.drop k) s) ∧ wr = w) (fun i _ => n - (intOf i).toNat)
  case atStart => exact ⟨0, Nat.zero_le _, rfl, rfl, rfl⟩
  case round =>
    obtain ⟨k, hk, rfl, hf, rfl⟩ := hrel
    by_cases hlt : k < n
    · obtain ⟨t, i, g, o, hx, rfl, hg, c1, c2⟩ := HA.out.get hlt
      have i0 : (0 : Int) ≤ (k : Int) := by omega
      have i1 : (k : Int) < (n : Int) := by omega
      by_cases e : t = s
      · have HE := Lib.hid (show hasE xs s = true by unfold hasE; rw [hf.out, entAt_yes hx e]; rfl)
        have hs := bytes_eq e
        clear hx e
        go_wp2
        go_ret
        exact ⟨by rw [HE.out]; rfl, rfl⟩
      · have HE := Lib.hid (hf.out.trans (entAt_no hx e))
        have hs := bytes_ne e
        clear hx e
        go_wp2
        go_roundw
        case rel => exact ⟨k + 1, by omega, by go_num, HE, trivial⟩
        case measure => simp [intOf]; omega
    · obtain rfl : k = n := by omega
      have HE := Lib.hid (show hasE xs s = false by unfold hasE; rw [hf.out, drop_end HA.out.len]; rfl)
      go_wp2
      go_ret
      exact ⟨by rw [HE.out]; rfl, rfl⟩

set_option maxHeartbeats 400000 in
theorem specNode (v : Value) (d : D) (id : Int) (w : World) (hm : d.nodes.length ≤ maxLen) (hv : IsDisk w v d) :
    Calls Tryz.prog 13 #[v, .int .i64 id] w fun e w' => e = .returned (.int .i64 (ixI (nodeIx d.nodes id))) ∧ Below w.heap.size w w' := by
  obtain ⟨aN, aE, aO, aS, n, cN, nE, cE, nO, cO, nS, cS, rfl, hN, hE, hO, hS⟩ := hv
  rw [hN.len] at hm
  unfold maxLen at hm
  have HN := Lib.hid (hN.below (w' := w.alloc (.cells #[.slice aN n cN, .slice aE nE cE, .slice aO nO cO, .slice aS nS cS, .int .i64 d.room, .int .i64 d.next] 32)) ((Below.refl _ _).alloc (Nat.le_refl _) _))
  clear hN hE hO hS
  go_enter Tryz.func13, Tryz.ntmps13
  go_wp2
  obtain ⟨W, hW⟩ : ∃ W, W = w.alloc (.cells #[.slice aN n cN, .slice aE nE cE, .slice aO nO cO, .slice aS nS cS, .int .i64 d.room, .int .i64 d.next] 32) := ⟨_, rfl⟩
  have x0 : W.cell? ⟨w.heap.size, 0, none⟩ = some (.slice aN n cN) := by rw [hW]; simp
  have hB := Lib.hid (show Below w.heap.size w W by rw [hW]; exact (Below.refl _ _).alloc (Nat.le_refl _) _)
  rw [← hW] at HN ⊢
  clear hW
  go_loopw [5] (fun i wr => ∃ k : Nat, k ≤ n ∧ i = .int .i64 k ∧ Hid (nodeIx d.nodes id = (nodeIx (d.nodes.drop k) id).map (· + k)) ∧ wr = W) (fun i _ => n - (intOf i).toNat)
  case atStart => exact ⟨0, Nat.zero_le _, rfl, Lib.hid (by simp), rfl⟩
  case round =>
    obtain ⟨k, hk, rfl, hf, rfl⟩ := hrel
    by_cases hlt : k < n
    · obtain ⟨i, t, j, g, o, hx, rfl, hg, c1, c2, c3⟩ := HN.out.get hlt
      have i0 : (0 : Int) ≤ (k : Int) := by omega
      have i1 : (k : Int) < (n : Int) := by omega
      by_cases e : i = id
      · have HE := Lib.hid (show ixI (nodeIx d.nodes id) = (k : Int) by rw [hf.out, nodeIx_yes hx e]; simp [ixI])
        clear hx
        subst e
        go_wp2
        go_ret
        exact ⟨by rw [HE.out]; rfl, hB.out⟩
      · have HE := Lib.hid (show nodeIx d.nodes id = (nodeIx (d.nodes.drop (k + 1)) id).map (· + (k + 1)) by
          rw [hf.out, nodeIx_no hx e, Option.map_map]
          congr 1
          funext y
          simp
          omega)
        have hs : (i == id) = false := by simpa using e
        clear hx
        go_wp2
        go_roundw
        case rel => exact ⟨k + 1, by omega, by go_num, HE, trivial⟩
        case measure => simp [intOf]; omega
    · obtain rfl : k = n := by omega
      have HE := Lib.hid (show ixI (nodeIx d.nodes id) = -1 by rw [hf.out, drop_end HN.out.len]; rfl)
      go_wp2
      go_ret
      exact ⟨by rw [HE.out]; rfl, hB.out⟩

end Go.Proofs.YtkibddcjogfklaaGreatDoor.disk

namespace Go.Proofs.YtkibddcjogfklaaGreatDoor.disk
open Go.RowKit
open kit strs recs

def nodeV : Option Nod → Value
  | none => .agg #[.int .i64 0, .string { data := #[] }, .int .i64 0]
  | some n => .agg #[.int .i64 n.1, .string n.2.1, .int .i64 n.2.2]
def nodeR (o : Option Nod) : Value := .tuple #[nodeV o, .bool o.isSome]
theorem nodeV_form (o : Option Nod) : ∃ (i : Int) (s : ByteArray) (j : Int), nodeV o = .agg #[.int .i64 i, .string s, .int .i64 j] := by
  cases o with
  | none => exact ⟨_, _, _, rfl⟩
  | some n => exact ⟨_, _, _, rfl⟩
theorem disk_box {w : World} {v : Value} {d : D} (h : IsDisk w v d) (t : TypeId) : ∃ cs : Array Value, v = .agg cs ∧ IsDisk (w.alloc (.cells cs t)) v d := by
  have hb := h
  obtain ⟨aN, aE, aO, aS, n, cN, nE, cE, nO, cO, nS, cS, rfl, _⟩ := h
  exact ⟨_, rfl, hb.below ((Below.refl _ _).alloc (Nat.le_refl _) _)⟩

def textR (o : Option Nod) : ByteArray := match o with | none => { data := #[] } | some n => n.2.1
theorem nodeV_text (o : Option Nod) : ∃ i j, nodeV o = .agg #[.int .i64 i, .string (textR o), .int .i64 j] := by
  cases o with
  | none => exact ⟨_, _, rfl⟩
  | some n => exact ⟨_, _, rfl⟩
set_option maxHeartbeats 400000 in
theorem specUsedOn (v : Value) (d : D) (w : World) (hb : usedOn d ≤ 9223372036854775807) (hd : wfD d) (hv : IsDisk w v d) :
    Calls Tryz.prog 31 #[v] w fun e w' => e = .returned (.int .i64 (usedOn d : Nat)) ∧ Below w.heap.size w w' := by
  obtain ⟨_, _, _, _, _, _, hm, _, _, _⟩ := hd
  obtain ⟨aN, aE, aO, aS, n, cN, nE, cE, nO, cO, nS, cS, rfl, hN, hE, hO, hS⟩ := hv
  rw [hN.len] at hm
  unfold maxLen at hm
  have HN := Lib.hid (hN.below (w' := w.alloc (.cells #[.slice aN n cN, .slice aE nE cE, .slice aO nO cO, .slice aS nS cS, .int .i64 d.room, .int .i64 d.next] 32)) ((Below.refl _ _).alloc (Nat.le_refl _) _))
  have HU := Lib.hid (show usedOn d = tot (d.nodes.map (·.2.1)) from rfl)
  rw [HU.out] at hb
  clear hN hE hO hS
  go_enter Tryz.func31, Tryz.ntmps31
  go_wp2
  obtain ⟨W, hW⟩ : ∃ W, W = w.alloc (.cells #[.slice aN n cN, .slice aE nE cE, .slice aO nO cO, .slice aS nS cS, .int .i64 d.room, .int .i64 d.next] 32) := ⟨_, rfl⟩
  have x0 : W.cell? ⟨w.heap.size, 0, none⟩ = some (.slice aN n cN) := by rw [hW]; simp
  have hB := Lib.hid (show Below w.heap.size w W by rw [hW]; exact (Below.refl _ _).alloc (Nat.le_refl _) _)
  rw [← hW] at HN ⊢
  clear hW
  go_loopw [3, 4] (fun x i wr => ∃ k m : Nat, k ≤ n ∧ i = .int .i64 k ∧ x = .int .i64 m ∧ Hid (m = tot ((d.nodes.map (·.2.1)).take k)) ∧ wr = W) (fun _ i _ => n - (intOf i).toNat)
  case atStart => exact ⟨0, 0, Nat.zero_le _, rfl, rfl, Lib.hid (by simp [tot]), rfl⟩
  case round =>
    obtain ⟨k, m, hk, rfl, rfl, hf, rfl⟩ := hrel
    by_cases hlt : k < n
    · obtain ⟨i, t, j, g, o, hx, rfl, hg, c1, c2, c3⟩ := HN.out.get hlt
      have i0 : (0 : Int) ≤ (k : Int) := by omega
      have i1 : (k : Int) < (n : Int) := by omega
      have hsn := tot_snoc (d.nodes.map (·.2.1)) k t (by rw [List.getElem?_map, hx]; rfl)
      have hle := tot_le (d.nodes.map (·.2.1)) (k + 1)
      have hf1 := hf.out
      have hsum : m + t.size ≤ 9223372036854775807 := by omega
      have HF := Lib.hid (show m + t.size = tot ((d.nodes.map (·.2.1)).take (k + 1)) by omega)
      clear hx hsn hle hf1
      have j0 : (0 : Int) ≤ (m : Int) + (t.size : Int) := by omega
      have j1 : (m : Int) + (t.size : Int) ≤ 9223372036854775807 := by omega
      go_wp2
      go_roundw
      case rel => exact ⟨k + 1, m + t.size, by omega, by go_num, by go_num, HF, trivial⟩
      case measure => simp [intOf]; omega
    · obtain rfl : k = n := by omega
      have HE := Lib.hid (show usedOn d = m by rw [HU.out, hf.out, List.take_of_length_le (by rw [List.length_map, HN.out.len]; exact Nat.le_refl _)])
      go_wp2
      go_ret
      exact ⟨by rw [HE.out]; rfl, hB.out⟩

/-- a list of texts in memory of its own -/
def OwnStrs (B : Nat) (w : World) (v : Value) (xs : List ByteArray) : Prop := ∃ n, w.ownsRow B 9 1 v n (xs.map Value.string)
def NamesR (d : D) (w : World) (e : Ending) (w' : World) : Prop := ∃ v, e = .returned v ∧ OwnStrs w.heap.size w' v (names d.ents) ∧ Below w.heap.size w w'
end Go.Proofs.YtkibddcjogfklaaGreatDoor.disk
