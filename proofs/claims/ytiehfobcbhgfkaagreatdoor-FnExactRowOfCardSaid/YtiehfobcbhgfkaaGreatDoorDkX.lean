/-
  Contracts of spec's disks: DiskNew, EntryAt, l06Has, l05Node, NodeAt, UsedOn, FileNames, ReadFile.
-/
import Derived.Test.YtiehfobcbhgfkaaGreatDoorDkMath
import Derived.Test.YtiehfobcbhgfkaaGreatDoorKinds
namespace Go.Proofs.YtiehfobcbhgfkaaGreatDoor.disk
set_option maxRecDepth 20000
open Go.RowKit
open kit strs recs

theorem specDiskNew (room : Int) (w : World) :
    Calls Tryz.prog 29 #[.int .i64 room] w fun e w' => e = .returned (.agg #[.slice none 0 0, .slice none 0 0, .slice none 0 0, .slice none 0 0, .int .i64 (if room < 0 then 0 else room), .int .i64 1]) ∧ Below w.heap.size w w' := by
  by_cases h : room < 0
  · rw [if_pos h]
    go_enter Tryz.func29, Tryz.ntmps29
    go_wp2
    refine bodyPost_ret (v := .agg #[.slice none 0 0, .slice none 0 0, .slice none 0 0, .slice none 0 0, .int .i64 0, .int .i64 1]) (by simp [results, Tryz.results29, go_sem]) rfl ⟨rfl, (Below.refl _ _).alloc (Nat.le_refl _) _⟩
  · rw [if_neg h]
    go_enter Tryz.func29, Tryz.ntmps29
    go_wp2
    refine bodyPost_ret (v := .agg #[.slice none 0 0, .slice none 0 0, .slice none 0 0, .slice none 0 0, .int .i64 room, .int .i64 1]) (by simp [results, Tryz.results29, go_sem]) rfl ⟨rfl, (Below.refl _ _).alloc (Nat.le_refl _) _⟩

set_option maxHeartbeats 400000 in
theorem specEntryAt (a : Option Addr) (c n : Nat) (xs : List Ent) (s : ByteArray) (w : World) (hm : n ≤ maxLen) (ha : AtE w a n xs) :
    Calls Tryz.prog 75 #[.slice a n c, .string s] w fun e w' => e = .returned (.int .i64 (idE xs s)) ∧ w = w' := by
  unfold maxLen at hm
  have HA := Lib.hid ha
  clear ha
  go_enter Tryz.func75, Tryz.ntmps75
  go_wp2
  go_loopw [5] (fun i wr => ∃ k : Nat, k ≤ n ∧ i = .int .i64 k ∧ Hid (entAt xs s = entAt (xs.drop k) s) ∧ wr = w) (fun i _ => n - (intOf i).toNat)
  case atStart => exact ⟨0, Nat.zero_le _, rfl, rfl, rfl⟩
  case round =>
    obtain ⟨k, hk, rfl, hf, rfl⟩ := hrel
    by_cases hlt : k < n
    · obtain ⟨t, i, g, o, hx, rfl, hg, c1, c2⟩ := HA.out.get hlt
      have i0 : (0 : Int) ≤ (k : Int) := by omega
      have i1 : (k : Int) < (n : Int) := by omega
      by_cases e : t = s
      · have HE := Lib.hid (show idE xs s = i by unfold idE; rw [hf.out, entAt_yes hx e]; rfl)
        have hs := bytes_eq e
        clear hx e
        go_wp2
        go_ret
        exact ⟨by rw [HE.out]; rfl, rfl⟩
      · have HE := Lib.hid (hf.out.trans (entAt_no hx e))
        have hs := bytes_ne e
        clear hx e
        go_wp2
        go_roundw
        case rel => exact ⟨k + 1, by omega, by go_num, HE, trivial⟩
        case measure => simp [intOf]; omega
    · obtain rfl : k = n := by omega
      have HE := Lib.hid (show idE xs s = 0 by unfold idE; rw [hf.out, drop_end HA.out.len]; rfl)
      go_wp2
      go_ret
      exact ⟨by rw [HE.out]; rfl, rfl⟩

set_option maxHeartbeats 400000 in
theorem specHas (a : Option Addr) (c n : Nat) (xs : List Ent) (s : ByteArray) (w : World) (hm : n ≤ maxLen) (ha : AtE w a n xs) :
    Calls Tryz.prog 70 #[.slice a n c, .string s] w fun e w' => e = .returned (.bool (hasE xs s)) ∧ w = w' := by
  unfold maxLen at hm
  have HA := Lib.hid ha
  clear ha
  go_enter Tryz.func70, Tryz.ntmps70
  go_wp2
  go_loopw [5] (fun i wr => ∃ k : Nat, k ≤ n ∧ i = .int .i64 k ∧ Hid (entAt xs s = entAt (xs.drop k) s) ∧ wr = w) (fun i _ => n - (intOf i).toNat)
  case atStart => exact ⟨0, Nat.zero_le _, rfl, rfl, rfl⟩
  case round =>
    obtain ⟨k, hk, rfl, hf, rfl⟩ := hrel
    by_cases hlt : k < n
    · obtain ⟨t, i, g, o, hx, rfl, hg, c1, c2⟩ := HA.out.get hlt
      have i0 : (0 : Int) ≤ (k : Int) := by omega
      have i1 : (k : Int) < (n : Int) := by omega
      by_cases e : t = s
      · have HE := Lib.hid (show hasE xs s = true by unfold hasE; rw [hf.out, entAt_yes hx e]; rfl)
        have hs := bytes_eq e
        clear hx e
        go_wp2
        go_ret
        exact ⟨by rw [HE.out]; rfl, rfl⟩
      · have HE := Lib.hid (hf.out.trans (entAt_no hx e))
        have hs := bytes_ne e
        clear hx e
        go_wp2
        go_roundw
        case rel => exact ⟨k + 1, by omega, by go_num, HE, trivial⟩
        case measure => simp [intOf]; omega
    · obtain rfl : k = n := by omega
      have HE := Lib.hid (show hasE xs s = false by unfold hasE; rw [hf.out, drop_end HA.out.len]; rfl)
      go_wp2
      go_ret
      exact ⟨by rw [HE.out]; rfl, rfl⟩

set_option maxHeartbeats 400000 in
theorem specNode (v : Value) (d : D) (id : Int) (w : World) (hm : d.nodes.length ≤ maxLen) (hv : IsDisk w v d) :
    Calls Tryz.prog 74 #[v, .int .i64 id] w fun e w' => e = .returned (.int .i64 (ixI (nodeIx d.nodes id))) ∧ Below w.heap.size w w' := by
  obtain ⟨aN, aE, aO, aS, n, cN, nE, cE, nO, cO, nS, cS, rfl, hN, hE, hO, hS⟩ := hv
  rw [hN.len] at hm
  unfold maxLen at hm
  have HN := Lib.hid (hN.below (w' := w.alloc (.cells #[.slice aN n cN, .slice aE nE cE, .slice aO nO cO, .slice aS nS cS, .int .i64 d.room, .int .i64 d.next] 28)) ((Below.refl _ _).alloc (Nat.le_refl _) _))
  clear hN hE hO hS
  go_enter Tryz.func74, Tryz.ntmps74
  go_wp2
  obtain ⟨W, hW⟩ : ∃ W, W = w.alloc (.cells #[.slice aN n cN, .slice aE nE cE, .slice aO nO cO, .slice aS nS cS, .int .i64 d.room, .int .i64 d.next] 28) := ⟨_, rfl⟩
  have x0 : W.cell? ⟨w.heap.size, 0, none⟩ = some (.slice aN n cN) := by rw [hW]; simp
  have hB := Lib.hid (show Below w.heap.size w W by rw [hW]; exact (Below.refl _ _).alloc (Nat.le_refl _) _)
  rw [← hW] at HN ⊢
  clear hW
  go_loopw [5] (fun i wr => ∃ k : Nat, k ≤ n ∧ i = .int .i64 k ∧ Hid (nodeIx d.nodes id = (nodeIx (d.nodes.drop k) id).map (· + k)) ∧ wr = W) (fun i _ => n - (intOf i).toNat)
  case atStart => exact ⟨0, Nat.zero_le _, rfl, Lib.hid (by simp), rfl⟩
  case round =>
    obtain ⟨k, hk, rfl, hf, rfl⟩ := hrel
    by_cases hlt : k < n
    · obtain ⟨i, t, j, g, o, hx, rfl, hg, c1, c2, c3⟩ := HN.out.get hlt
      have i0 : (0 : Int) ≤ (k : Int) := by omega
      have i1 : (k : Int) < (n : Int) := by omega
      by_cases e : i = id
      · have HE := Lib.hid (show ixI (nodeIx d.nodes id) = (k : Int) by rw [hf.out, nodeIx_yes hx e]; simp [ixI])
        clear hx
        subst e
        go_wp2
        go_ret
        exact ⟨by rw [HE.out]; rfl, hB.out⟩
      · have HE := Lib.hid (show nodeIx d.nodes id = (nodeIx (d.nodes.drop (k + 1)) id).map (· + (k + 1)) by
          rw [hf.out, nodeIx_no hx e, Option.map_map]
          congr 1
          funext y
          simp
          omega)
        have hs : (i == id) = false := by simpa using e
        clear hx
        go_wp2
        go_roundw
        case rel => exact ⟨k + 1, by omega, by go_num, HE, trivial⟩
        case measure => simp [intOf]; omega
    · obtain rfl : k = n := by omega
      have HE := Lib.hid (show ixI (nodeIx d.nodes id) = -1 by rw [hf.out, drop_end HN.out.len]; rfl)
      go_wp2
      go_ret
      exact ⟨by rw [HE.out]; rfl, hB.out⟩

end Go.Proofs.YtiehfobcbhgfkaaGreatDoor.disk

namespace Go.Proofs.YtiehfobcbhgfkaaGreatDoor.disk
set_option maxRecDepth 20000
open Go.RowKit
open kit strs recs

def nodeV : Option Nod → Value
  | none => .agg #[.int .i64 0, .string { data := #[] }, .int .i64 0]
  | some n => .agg #[.int .i64 n.1, .string n.2.1, .int .i64 n.2.2]
def nodeR (o : Option Nod) : Value := .tuple #[nodeV o, .bool o.isSome]
set_option maxHeartbeats 1000000 in
theorem specNodeAt (v : Value) (d : D) (s : ByteArray) (w : World) (hd : wfD d) (hv : IsDisk w v d) :
    Calls Tryz.prog 151 #[v, .string s] w fun e w' => e = .returned (nodeR (nodeAt d s)) ∧ Below w.heap.size w w' := by
  obtain ⟨_, _, _, _, _, _, m1, m2, _, _⟩ := hd
  have hv0 := hv
  obtain ⟨aN, aE, aO, aS, n, cN, nE, cE, nO, cO, nS, cS, rfl, hN, hE, hO, hS⟩ := hv
  obtain ⟨W, hW⟩ : ∃ W, W = (w.alloc (.cells #[.slice aN n cN, .slice aE nE cE, .slice aO nO cO, .slice aS nS cS, .int .i64 d.room, .int .i64 d.next] 28)).alloc (.cells #[.int .i64 0, .string { data := #[] }, .int .i64 0] 87) := ⟨_, rfl⟩
  have hWB : Below w.heap.size w W := by rw [hW]; exact ((Below.refl _ _).alloc (Nat.le_refl _) _).alloc (by simp) _
  have hWs : W.heap.size = w.heap.size + 2 := by rw [hW]; simp
  have x0 : W.cell? ⟨w.heap.size, 0, none⟩ = some (.slice aN n cN) := by rw [hW]; simp
  have x1 : W.cell? ⟨w.heap.size, 1, none⟩ = some (.slice aE nE cE) := by rw [hW]; simp
  have x2 : W.cell? ⟨w.heap.size, 2, none⟩ = some (.slice aO nO cO) := by rw [hW]; simp
  have x3 : W.cell? ⟨w.heap.size, 3, none⟩ = some (.slice aS nS cS) := by rw [hW]; simp
  have x4 : W.cell? ⟨w.heap.size, 4, none⟩ = some (.int .i64 d.room) := by rw [hW]; simp
  have x5 : W.cell? ⟨w.heap.size, 5, none⟩ = some (.int .i64 d.next) := by rw [hW]; simp
  have r0 : W.cell? ⟨w.heap.size + 1, 0, none⟩ = some (.int .i64 0) := by rw [hW]; simp
  have r1 : W.cell? ⟨w.heap.size + 1, 1, none⟩ = some (.string { data := #[] }) := by rw [hW]; simp
  have r2 : W.cell? ⟨w.heap.size + 1, 2, none⟩ = some (.int .i64 0) := by rw [hW]; simp
  have f0 : W.frozen? ⟨w.heap.size + 1, 0, none⟩ = false := by rw [hW]; simp
  have f1 : W.frozen? ⟨w.heap.size + 1, 1, none⟩ = false := by rw [hW]; simp
  have f2 : W.frozen? ⟨w.heap.size + 1, 2, none⟩ = false := by rw [hW]; simp
  have HE := Lib.hid (hE.below hWB)
  have HN := Lib.hid (hN.below hWB)
  have HV := Lib.hid (hv0.below hWB)
  have HB := Lib.hid hWB
  have mE : nE ≤ maxLen := by rw [hE.len] at m2; exact m2
  have z0 : w.heap.size < W.heap.size := by omega
  have z1 : w.heap.size + 1 < W.heap.size := by omega
  have M1 := Lib.hid m1
  have ME := Lib.hid mE
  clear hN hE hO hS hv0 hWB m1 m2 mE hWs
  go_enter Tryz.func151, Tryz.ntmps151
  go_wp2
  rw [← hW]
  clear hW
  go_region_held3 (fun w' => w'.cell? ⟨w.heap.size, 0, none⟩ = some (.slice aN n cN) ∧ w'.cell? ⟨w.heap.size, 1, none⟩ = some (.slice aE nE cE) ∧ w'.cell? ⟨w.heap.size, 2, none⟩ = some (.slice aO nO cO) ∧ w'.cell? ⟨w.heap.size, 3, none⟩ = some (.slice aS nS cS) ∧ w'.cell? ⟨w.heap.size, 4, none⟩ = some (.int .i64 d.room) ∧ w'.cell? ⟨w.heap.size, 5, none⟩ = some (.int .i64 d.next)) (first | exact ⟨x0, x1, x2, x3, x4, x5⟩ | exact ⟨(hb1.cell (p := ⟨w.heap.size, 0, none⟩) z0).trans x0, (hb1.cell (p := ⟨w.heap.size, 1, none⟩) z0).trans x1, (hb1.cell (p := ⟨w.heap.size, 2, none⟩) z0).trans x2, (hb1.cell (p := ⟨w.heap.size, 3, none⟩) z0).trans x3, (hb1.cell (p := ⟨w.heap.size, 4, none⟩) z0).trans x4, (hb1.cell (p := ⟨w.heap.size, 5, none⟩) z0).trans x5⟩) (first | (go_at_call 75; refine (specEntryAt aE cE nE d.ents s _ ME.out ?_).mono ?_; exact HE.out; rintro e w1 ⟨rfl, rfl⟩) | (go_at_call 74; refine (specNode _ d (idE d.ents s) _ M1.out ?_).mono ?_; exact HV.out; rintro e w1 ⟨rfl, hb1⟩))
  have hbW : Below W.heap.size W w1 := (Below.refl W.heap.size W).drew.trans hb1
  have y0 := (hbW.cell (p := ⟨w.heap.size, 0, none⟩) z0).trans x0
  have y1 := (hbW.cell (p := ⟨w.heap.size, 1, none⟩) z0).trans x1
  have s0 := (hbW.cell (p := ⟨w.heap.size + 1, 0, none⟩) z1).trans r0
  have s1 := (hbW.cell (p := ⟨w.heap.size + 1, 1, none⟩) z1).trans r1
  have s2 := (hbW.cell (p := ⟨w.heap.size + 1, 2, none⟩) z1).trans r2
  have t0 := (hbW.frozen (p := ⟨w.heap.size + 1, 0, none⟩) z1).trans f0
  have t1 := (hbW.frozen (p := ⟨w.heap.size + 1, 1, none⟩) z1).trans f1
  have t2 := (hbW.frozen (p := ⟨w.heap.size + 1, 2, none⟩) z1).trans f2
  have HE1 := Lib.hid (HE.out.below hbW)
  have HN1 := Lib.hid (HN.out.below hbW)
  have HB1 := Lib.hid (HB.out.trans (hbW.mono (Nat.le_of_lt z0)))
  clear hb1 hbW x0 x1 x2 x3 x4 x5 r0 r1 r2 f0 f1 f2
  obtain ⟨o, ho⟩ : ∃ o, o = nodeIx d.nodes (idE d.ents s) := ⟨_, rfl⟩
  rw [← ho]
  cases o with
  | none =>
    rw [show ixI none = -1 from rfl]
    have HR := Lib.hid (nodeAt_none2 ho.symm)
    clear ho
    go_wp2
    refine bodyPost_ret (v := .tuple #[.agg #[.int .i64 0, .string { data := #[] }, .int .i64 0], .bool false]) (by simp [results, Tryz.results151, go_sem, s0, s1, s2]) rfl ⟨by rw [HR.out]; rfl, ?_⟩
    iterate 3 refine Below.setCell ?_ (by first | (simp; done) | (simp; omega)) _
    exact HB1.out
  | some k =>
    obtain ⟨nd, hx, hid⟩ := nodeIx_lt _ _ _ ho.symm
    obtain ⟨g, o, rfl, hg, hk, c1, c2, c3⟩ := HN1.out.nth hx
    have i0 : (0 : Int) ≤ (k : Int) := by omega
    have i1 : (k : Int) < (n : Int) := by omega
    have i2 : ¬ (k : Int) < 0 := by omega
    rw [show ixI (some k) = (k : Int) from rfl]
    cases hh : hasE d.ents s with
    | false =>
      have HR := Lib.hid (show nodeAt d s = none from nodeAt_none (by unfold hasE at hh; simpa using hh))
      have HH := Lib.hid hh
      clear hx hid ho hh
      go_wp2_with (fail)
      refine (specHas aE cE nE d.ents s _ ME.out HE1.out).mono ?_
      rw [HH.out]
      rintro e w2 ⟨rfl, rfl⟩
      go_wp2
      refine bodyPost_ret (v := .tuple #[.agg #[.int .i64 0, .string { data := #[] }, .int .i64 0], .bool false]) (by simp [results, Tryz.results151, go_sem, s0, s1, s2]) rfl ⟨by rw [HR.out]; rfl, ?_⟩
      iterate 3 refine Below.setCell ?_ (by first | (simp; done) | (simp; omega)) _
      exact HB1.out
    | true =>
      have HR := Lib.hid (nodeAt_some hh ho.symm hx)
      have HH := Lib.hid hh
      clear hx hid ho hh
      go_wp2_with (fail)
      refine (specHas aE cE nE d.ents s _ ME.out HE1.out).mono ?_
      rw [HH.out]
      rintro e w2 ⟨rfl, rfl⟩
      go_wp2
      refine bodyPost_ret (v := .tuple #[.agg #[.int .i64 nd.1, .string nd.2.1, .int .i64 nd.2.2], .bool true]) (by simp [results, Tryz.results151, go_sem, s0, s1, s2]) rfl ⟨by rw [HR.out]; rfl, ?_⟩
      iterate 3 refine Below.setCell ?_ (by first | (simp; done) | (simp; omega)) _
      exact HB1.out

def textR (o : Option Nod) : ByteArray := match o with | none => { data := #[] } | some n => n.2.1
theorem nodeV_text (o : Option Nod) : ∃ i j, nodeV o = .agg #[.int .i64 i, .string (textR o), .int .i64 j] := by
  cases o with
  | none => exact ⟨_, _, rfl⟩
  | some n => exact ⟨_, _, rfl⟩
set_option maxHeartbeats 1000000 in
theorem specReadFile (v : Value) (d : D) (s : ByteArray) (w : World) (hd : wfD d) (hv : IsDisk w v d) :
    Calls Tryz.prog 103 #[v, .string s] w fun e w' => e = .returned (.tuple #[.string (textR (nodeAt d s)), .bool (nodeAt d s).isSome]) ∧ Below w.heap.size w w' := by
  have hv0 := hv
  obtain ⟨aN, aE, aO, aS, n, cN, nE, cE, nO, cO, nS, cS, rfl, hN, hE, hO, hS⟩ := hv
  have HD := Lib.hid hd
  have HV := Lib.hid hv0
  clear hd hv0 hN hE hO hS
  go_enter Tryz.func103, Tryz.ntmps103
  go_wp2_with (fail)
  have q0 : Below w.heap.size w (w.alloc (.cells #[.slice aN n cN, .slice aE nE cE, .slice aO nO cO, .slice aS nS cS, .int .i64 d.room, .int .i64 d.next] 28)) := (Below.refl _ _).alloc (Nat.le_refl _) _
  refine (specNodeAt _ d s _ HD.out (HV.out.below q0)).mono ?_
  rintro e w1 ⟨he, hb1⟩
  obtain ⟨i, j, hn⟩ := nodeV_text (nodeAt d s)
  rw [show nodeR (nodeAt d s) = .tuple #[nodeV (nodeAt d s), .bool (nodeAt d s).isSome] from rfl, hn] at he
  obtain ⟨b, hbb⟩ : ∃ b, b = (nodeAt d s).isSome := ⟨_, rfl⟩
  obtain ⟨t, ht⟩ : ∃ t, t = textR (nodeAt d s) := ⟨_, rfl⟩
  rw [← hbb, ← ht] at he
  have HBB := Lib.hid hbb
  have HT := Lib.hid ht
  clear hbb ht hn
  subst he
  go_wp2
  go_ret2
  exact ⟨by rw [← HT.out, ← HBB.out]; rfl, (q0.trans (hb1.mono q0.size)).alloc (by have := hb1.size; simp at this; omega) _⟩


set_option maxHeartbeats 400000 in
theorem specUsedOn (v : Value) (d : D) (w : World) (hb : usedOn d ≤ 9223372036854775807) (hd : wfD d) (hv : IsDisk w v d) :
    Calls Tryz.prog 76 #[v] w fun e w' => e = .returned (.int .i64 (usedOn d : Nat)) ∧ Below w.heap.size w w' := by
  obtain ⟨_, _, _, _, _, _, hm, _, _, _⟩ := hd
  obtain ⟨aN, aE, aO, aS, n, cN, nE, cE, nO, cO, nS, cS, rfl, hN, hE, hO, hS⟩ := hv
  rw [hN.len] at hm
  unfold maxLen at hm
  have HN := Lib.hid (hN.below (w' := w.alloc (.cells #[.slice aN n cN, .slice aE nE cE, .slice aO nO cO, .slice aS nS cS, .int .i64 d.room, .int .i64 d.next] 28)) ((Below.refl _ _).alloc (Nat.le_refl _) _))
  have HU := Lib.hid (show usedOn d = tot (d.nodes.map (·.2.1)) from rfl)
  rw [HU.out] at hb
  clear hN hE hO hS
  go_enter Tryz.func76, Tryz.ntmps76
  go_wp2
  obtain ⟨W, hW⟩ : ∃ W, W = w.alloc (.cells #[.slice aN n cN, .slice aE nE cE, .slice aO nO cO, .slice aS nS cS, .int .i64 d.room, .int .i64 d.next] 28) := ⟨_, rfl⟩
  have x0 : W.cell? ⟨w.heap.size, 0, none⟩ = some (.slice aN n cN) := by rw [hW]; simp
  have hB := Lib.hid (show Below w.heap.size w W by rw [hW]; exact (Below.refl _ _).alloc (Nat.le_refl _) _)
  rw [← hW] at HN ⊢
  clear hW
  go_loopw [3, 4] (fun x i wr => ∃ k m : Nat, k ≤ n ∧ i = .int .i64 k ∧ x = .int .i64 m ∧ Hid (m = tot ((d.nodes.map (·.2.1)).take k)) ∧ wr = W) (fun _ i _ => n - (intOf i).toNat)
  case atStart => exact ⟨0, 0, Nat.zero_le _, rfl, rfl, Lib.hid (by simp [tot]), rfl⟩
  case round =>
    obtain ⟨k, m, hk, rfl, rfl, hf, rfl⟩ := hrel
    by_cases hlt : k < n
    · obtain ⟨i, t, j, g, o, hx, rfl, hg, c1, c2, c3⟩ := HN.out.get hlt
      have i0 : (0 : Int) ≤ (k : Int) := by omega
      have i1 : (k : Int) < (n : Int) := by omega
      have hsn := tot_snoc (d.nodes.map (·.2.1)) k t (by rw [List.getElem?_map, hx]; rfl)
      have hle := tot_le (d.nodes.map (·.2.1)) (k + 1)
      have hf1 := hf.out
      have hsum : m + t.size ≤ 9223372036854775807 := by omega
      have HF := Lib.hid (show m + t.size = tot ((d.nodes.map (·.2.1)).take (k + 1)) by omega)
      clear hx hsn hle hf1
      have j0 : (0 : Int) ≤ (m : Int) + (t.size : Int) := by omega
      have j1 : (m : Int) + (t.size : Int) ≤ 9223372036854775807 := by omega
      go_wp2
      go_roundw
      case rel => exact ⟨k + 1, m + t.size, by omega, by go_num, by go_num, HF, trivial⟩
      case measure => simp [intOf]; omega
    · obtain rfl : k = n := by omega
      have HE := Lib.hid (show usedOn d = m by rw [HU.out, hf.out, List.take_of_length_le (by rw [List.length_map, HN.out.len]; exact Nat.le_refl _)])
      go_wp2
      go_ret
      exact ⟨by rw [HE.out]; rfl, hB.out⟩

/-- a list of texts in memory of its own -/
def OwnStrs (B : Nat) (w : World) (v : Value) (xs : List ByteArray) : Prop := ∃ n, w.ownsRow B 9 1 v n (xs.map Value.string)
def NamesR (d : D) (w : World) (e : Ending) (w' : World) : Prop := ∃ v, e = .returned v ∧ OwnStrs w.heap.size w' v (names d.ents) ∧ Below w.heap.size w w'
end Go.Proofs.YtiehfobcbhgfkaaGreatDoor.disk

namespace Go.Proofs.YtiehfobcbhgfkaaGreatDoor.kd
set_option maxRecDepth 20000
open Go.RowKit
open kit strs recs disk

theorem sReadFile (v : Value) (d : D) (s : ByteArray) (w : World) (hk : okD d) (hv : IsDisk w v d) :
    Calls Tryz.prog 103 #[v, .string s] w fun e w' => e = .returned (.tuple #[.string (textR (nodeAt d s)), .bool (nodeAt d s).isSome]) ∧ Below w.heap.size w w' :=
  specReadFile v d s w hk.1 hv
end Go.Proofs.YtiehfobcbhgfkaaGreatDoor.kd
