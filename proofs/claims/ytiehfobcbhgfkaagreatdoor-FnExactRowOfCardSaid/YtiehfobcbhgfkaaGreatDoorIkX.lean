/-
  Contracts of impl's disks: DiskNew, EntryAt, NodeAt, UsedOn, FileNames, ReadFile.
-/
import Derived.Test.YtiehfobcbhgfkaaGreatDoorDkX
namespace Go.Proofs.YtiehfobcbhgfkaaGreatDoor.disk
set_option maxRecDepth 20000
open Go.RowKit
open kit strs recs

/-- the place of a name -/
def entIx : List Ent → ByteArray → Option Nat
  | [], _ => none
  | e :: r, s => if e.1 = s then some 0 else (entIx r s).map (· + 1)
theorem entIx_yes {xs : List Ent} {s t : ByteArray} {i : Int} {k : Nat} (h : xs[k]? = some (t, i)) (e : t = s) : entIx (xs.drop k) s = some 0 := by rw [drop_cons h]; simp [entIx, e]
theorem entIx_no {xs : List Ent} {s t : ByteArray} {i : Int} {k : Nat} (h : xs[k]? = some (t, i)) (e : ¬ t = s) : entIx (xs.drop k) s = (entIx (xs.drop (k + 1)) s).map (· + 1) := by rw [drop_cons h]; simp [entIx, e]
theorem entIx_none : ∀ {xs : List Ent} {s : ByteArray}, entIx xs s = none → entAt xs s = none
  | [], s, _ => rfl
  | e :: r, s, h => by
    unfold entIx at h
    unfold entAt
    by_cases hs : e.1 = s
    · rw [if_pos hs] at h; cases h
    · rw [if_neg hs] at h ⊢
      exact entIx_none (by simpa using h)
theorem entIx_some : ∀ {xs : List Ent} {s : ByteArray} {k : Nat}, entIx xs s = some k → ∃ e, xs[k]? = some e ∧ entAt xs s = some e.2
  | [], s, k, h => by cases h
  | e :: r, s, k, h => by
    unfold entIx at h
    unfold entAt
    by_cases hs : e.1 = s
    · rw [if_pos hs] at h ⊢
      simp only [Option.some.injEq] at h
      subst h
      exact ⟨e, rfl, rfl⟩
    · rw [if_neg hs] at h ⊢
      cases hr : entIx r s with
      | none => rw [hr] at h; cases h
      | some j =>
        rw [hr] at h
        simp only [Option.map_some, Option.some.injEq] at h
        subst h
        obtain ⟨e', h1, h2⟩ := entIx_some hr
        exact ⟨e', by simpa using h1, h2⟩

theorem implSame (t s : ByteArray) (i : Int) (b : Nat) (w : World) (hc : w.cell? ⟨b, 0, none⟩ = some (.string s)) (hb : b < w.heap.size) :
    Calls Tryz.prog 202 #[.agg #[.string t, .int .i64 i], .pointer (some ⟨b, 0, none⟩)] w fun e w' => e = .returned (.bool (decide (t = s))) ∧ Below w.heap.size w w' := by
  have hn : Below w.heap.size w (w.alloc (.cells #[.string t, .int .i64 i] 71)) := (Below.refl _ _).alloc (Nat.le_refl _) _
  have hc2 := (hn.cell (p := ⟨b, 0, none⟩) hb).trans hc
  have HN := Lib.hid hn
  clear hn hc
  by_cases e : t = s
  · have hs := bytes_eq e
    have HE := Lib.hid e
    clear e
    go_enter Tryz.func202, Tryz.ntmps202
    go_wp2
    go_ret
    exact ⟨by simp [HE.out], HN.out⟩
  · have hs := bytes_ne e
    have HE := Lib.hid e
    clear e
    go_enter Tryz.func202, Tryz.ntmps202
    go_wp2
    go_ret
    exact ⟨by simp [HE.out], HN.out⟩

set_option maxHeartbeats 800000 in
theorem implIndex (a : Option Addr) (c n b : Nat) (xs : List Ent) (s : ByteArray) (w : World) (hm : n ≤ maxLen) (ha : AtE w a n xs) (hc : w.cell? ⟨b, 0, none⟩ = some (.string s)) (hb : b < w.heap.size) :
    Calls Tryz.prog 201 #[.slice a n c, .func (.func 202) #[] #[.pointer (some ⟨b, 0, none⟩)]] w fun e w' => e = .returned (.int .i64 (ixI (entIx xs s))) ∧ Below w.heap.size w w' := by
  unfold maxLen at hm
  have HA := Lib.hid ha
  have HC := Lib.hid hc
  clear ha hc
  go_enter Tryz.func201, Tryz.ntmps201
  go_wp2
  go_loopw [5, 8] (fun _ i wr => ∃ k : Nat, k ≤ n ∧ i = .int .i64 k ∧ Hid (entIx xs s = (entIx (xs.drop k) s).map (· + k)) ∧ Below w.heap.size w wr) (fun _ i _ => n - (intOf i).toNat)
  case atStart => exact ⟨0, Nat.zero_le _, rfl, Lib.hid (by simp), Below.refl _ _⟩
  case round =>
    obtain ⟨k, hk, rfl, hf, hbl⟩ := hrel
    by_cases hlt : k < n
    · obtain ⟨t, i, g, o, hx, rfl, hg, c1, c2⟩ := (HA.out.below hbl).get hlt
      have i0 : (0 : Int) ≤ (k : Int) := by omega
      have i1 : (k : Int) < (n : Int) := by omega
      have hcr := (hbl.cell (p := ⟨b, 0, none⟩) hb).trans HC.out
      have hbr : b < wr.heap.size := Nat.lt_of_lt_of_le hb hbl.size
      have CS := Lib.hid (implSame t s i b wr hcr hbr)
      have HBL := Lib.hid hbl
      clear hcr hbr hbl
      by_cases e : t = s
      · have HE := Lib.hid (show ixI (entIx xs s) = (k : Int) by rw [hf.out, entIx_yes hx e]; simp [ixI])
        rw [show decide (t = s) = true by simp [e]] at CS
        clear hx e
        go_wp2_with (go_at_call 202; refine CS.out.mono ?_; rintro e w1 ⟨rfl, hb1⟩)
        go_ret
        exact ⟨by rw [HE.out]; rfl, HBL.out.trans (hb1.mono HBL.out.size)⟩
      · have HE := Lib.hid (show entIx xs s = (entIx (xs.drop (k + 1)) s).map (· + (k + 1)) by
          rw [hf.out, entIx_no hx e, Option.map_map]
          congr 1
          funext y
          simp
          omega)
        rw [show decide (t = s) = false by simp [e]] at CS
        clear hx e
        go_wp2_with (go_at_call 202; refine CS.out.mono ?_; rintro e w1 ⟨rfl, hb1⟩)
        go_roundw
        case rel => exact ⟨k + 1, by omega, by go_num, HE, HBL.out.trans (hb1.mono HBL.out.size)⟩
        case measure => simp [intOf]; omega
    · obtain rfl : k = n := by omega
      have HE := Lib.hid (show ixI (entIx xs s) = -1 by rw [hf.out, drop_end HA.out.len]; rfl)
      go_wp2
      go_ret
      exact ⟨by rw [HE.out]; rfl, hbl⟩

set_option maxHeartbeats 400000 in
theorem implPlace (a : Option Addr) (c n : Nat) (xs : List Ent) (s : ByteArray) (w : World) (hm : n ≤ maxLen) (ha : AtE w a n xs) :
    Calls Tryz.prog 165 #[.slice a n c, .string s] w fun e w' => e = .returned (.int .i64 (ixI (entIx xs s))) ∧ Below w.heap.size w w' := by
  have hn : Below w.heap.size w (w.alloc (.cells #[.string s] 9)) := (Below.refl _ _).alloc (Nat.le_refl _) _
  have CI := Lib.hid (implIndex a c n w.heap.size xs s (w.alloc (.cells #[.string s] 9)) hm (ha.below hn) (by simp) (by simp))
  have HN := Lib.hid hn
  clear hn ha
  go_enter Tryz.func165, Tryz.ntmps165
  go_wp2_with (go_at_call 201; refine CI.out.mono ?_; rintro e w1 ⟨rfl, hb1⟩)
  go_ret
  exact ⟨rfl, HN.out.trans (hb1.mono HN.out.size)⟩

end Go.Proofs.YtiehfobcbhgfkaaGreatDoor.disk

namespace Go.Proofs.YtiehfobcbhgfkaaGreatDoor.disk
set_option maxRecDepth 20000
open Go.RowKit
open kit strs recs

theorem nodeAt_ix {d : D} {s : ByteArray} {en : Ent} (h : entAt d.ents s = some en.2) : nodeAt d s = match nodeIx d.nodes en.2 with | none => none | some k => d.nodes[k]? := by
  unfold nodeAt
  simp only [h]
  cases nodeIx d.nodes en.2 <;> rfl

set_option maxHeartbeats 2000000 in
theorem implNodeAt (v : Value) (d : D) (s : ByteArray) (w : World) (hd : wfD d) (hv : IsDisk w v d) :
    Calls Tryz.prog 112 #[v, .string s] w fun e w' => e = .returned (nodeR (nodeAt d s)) ∧ Below w.heap.size w w' := by
  obtain ⟨_, _, _, _, _, _, m1, m2, _, _⟩ := hd
  obtain ⟨aN, aE, aO, aS, n, cN, nE, cE, nO, cO, nS, cS, rfl, hN, hE, hO, hS⟩ := hv
  obtain ⟨W, hW⟩ : ∃ W, W = (w.alloc (.cells #[.slice aN n cN, .slice aE nE cE, .slice aO nO cO, .slice aS nS cS, .int .i64 d.room, .int .i64 d.next] 28)).alloc (.cells #[.int .i64 0, .string { data := #[] }, .int .i64 0] 87) := ⟨_, rfl⟩
  have hWB : Below w.heap.size w W := by rw [hW]; exact ((Below.refl _ _).alloc (Nat.le_refl _) _).alloc (by simp) _
  have hWs : W.heap.size = w.heap.size + 2 := by rw [hW]; simp
  have x0 : W.cell? ⟨w.heap.size, 0, none⟩ = some (.slice aN n cN) := by rw [hW]; simp
  have x1 : W.cell? ⟨w.heap.size, 1, none⟩ = some (.slice aE nE cE) := by rw [hW]; simp
  have r0 : W.cell? ⟨w.heap.size + 1, 0, none⟩ = some (.int .i64 0) := by rw [hW]; simp
  have r1 : W.cell? ⟨w.heap.size + 1, 1, none⟩ = some (.string { data := #[] }) := by rw [hW]; simp
  have r2 : W.cell? ⟨w.heap.size + 1, 2, none⟩ = some (.int .i64 0) := by rw [hW]; simp
  have f0 : W.frozen? ⟨w.heap.size + 1, 0, none⟩ = false := by rw [hW]; simp
  have f1 : W.frozen? ⟨w.heap.size + 1, 1, none⟩ = false := by rw [hW]; simp
  have f2 : W.frozen? ⟨w.heap.size + 1, 2, none⟩ = false := by rw [hW]; simp
  have mE : nE ≤ maxLen := by rw [hE.len] at m2; exact m2
  have hm : n ≤ 9223372036854775807 := by rw [hN.len] at m1; exact m1
  have CP := Lib.hid (implPlace aE cE nE d.ents s W mE (hE.below hWB))
  have HE := Lib.hid (hE.below hWB)
  have HN := Lib.hid (hN.below hWB)
  have HB := Lib.hid hWB
  have z0 : w.heap.size < W.heap.size := by omega
  have z1 : w.heap.size + 1 < W.heap.size := by omega
  clear hN hE hO hS hWB m1 m2 mE hWs
  obtain ⟨o, ho⟩ : ∃ o, o = entIx d.ents s := ⟨_, rfl⟩
  rw [← ho] at CP
  cases o with
  | none =>
    rw [show ixI none = -1 from rfl] at CP
    have HR := Lib.hid (show nodeAt d s = none from nodeAt_none (entIx_none ho.symm))
    clear ho
    go_enter Tryz.func112, Tryz.ntmps112
    go_wp2_with (fail)
    rw [← hW]
    clear hW
    refine CP.out.mono ?_
    rintro e w1 ⟨rfl, hb1⟩
    have s0 := (hb1.cell (p := ⟨w.heap.size + 1, 0, none⟩) z1).trans r0
    have s1 := (hb1.cell (p := ⟨w.heap.size + 1, 1, none⟩) z1).trans r1
    have s2 := (hb1.cell (p := ⟨w.heap.size + 1, 2, none⟩) z1).trans r2
    have t0 := (hb1.frozen (p := ⟨w.heap.size + 1, 0, none⟩) z1).trans f0
    have t1 := (hb1.frozen (p := ⟨w.heap.size + 1, 1, none⟩) z1).trans f1
    have t2 := (hb1.frozen (p := ⟨w.heap.size + 1, 2, none⟩) z1).trans f2
    have hsz := hb1.size
    go_wp2
    refine bodyPost_ret (v := .tuple #[.agg #[.int .i64 0, .string { data := #[] }, .int .i64 0], .bool false]) (by simp [results, Tryz.results112, go_sem, s0, s1, s2]) rfl ⟨by rw [HR.out]; rfl, ?_⟩
    iterate 3 refine Below.setCell ?_ (by first | (simp; done) | (simp; omega)) _
    exact HB.out.trans (hb1.mono HB.out.size)
  | some j =>
    obtain ⟨en, hxe, he⟩ := entIx_some ho.symm
    rw [show ixI (some j) = (j : Int) from rfl] at CP
    have HA := Lib.hid (nodeAt_ix (d := d) (s := s) he)
    have HX := Lib.hid hxe
    clear ho hxe he
    go_enter Tryz.func112, Tryz.ntmps112
    go_wp2_with (fail)
    rw [← hW]
    clear hW
    refine CP.out.mono ?_
    rintro e w1 ⟨rfl, hb1⟩
    have i2 : ¬ (j : Int) < 0 := by omega
    have y0 := (hb1.cell (p := ⟨w.heap.size, 0, none⟩) z0).trans x0
    have y1 := (hb1.cell (p := ⟨w.heap.size, 1, none⟩) z0).trans x1
    have Y1 := Lib.hid y1
    have R0 := Lib.hid ((hb1.cell (p := ⟨w.heap.size + 1, 0, none⟩) z1).trans r0)
    have R1 := Lib.hid ((hb1.cell (p := ⟨w.heap.size + 1, 1, none⟩) z1).trans r1)
    have R2 := Lib.hid ((hb1.cell (p := ⟨w.heap.size + 1, 2, none⟩) z1).trans r2)
    have F0 := Lib.hid ((hb1.frozen (p := ⟨w.heap.size + 1, 0, none⟩) z1).trans f0)
    have F1 := Lib.hid ((hb1.frozen (p := ⟨w.heap.size + 1, 1, none⟩) z1).trans f1)
    have F2 := Lib.hid ((hb1.frozen (p := ⟨w.heap.size + 1, 2, none⟩) z1).trans f2)
    have HE1 := Lib.hid (HE.out.below hb1)
    have HN1 := Lib.hid (HN.out.below hb1)
    have hz1 : w.heap.size + 1 < w1.heap.size := Nat.lt_of_lt_of_le z1 hb1.size
    have hz0 : w.heap.size < w1.heap.size := Nat.lt_of_lt_of_le z0 hb1.size
    have HB1 := Lib.hid (HB.out.trans (hb1.mono HB.out.size))
    clear hb1 x0 x1 r0 r1 r2 f0 f1 f2 y1 z0 z1
    go_wp2
    go_loopw [19] (fun i wr => ∃ k : Nat, k ≤ n ∧ i = .int .i64 k ∧ Hid (nodeIx d.nodes en.2 = (nodeIx (d.nodes.drop k) en.2).map (· + k)) ∧ Below w1.heap.size w1 wr) (fun i _ => n - (intOf i).toNat)
    case atStart => exact ⟨0, Nat.zero_le _, rfl, Lib.hid (by simp), Below.refl _ _⟩
    case round =>
      obtain ⟨k, hk, rfl, hf, hb⟩ := hrel
      have s0 := (hb.cell (p := ⟨w.heap.size + 1, 0, none⟩) hz1).trans R0.out
      have s1 := (hb.cell (p := ⟨w.heap.size + 1, 1, none⟩) hz1).trans R1.out
      have s2 := (hb.cell (p := ⟨w.heap.size + 1, 2, none⟩) hz1).trans R2.out
      have t0 := (hb.frozen (p := ⟨w.heap.size + 1, 0, none⟩) hz1).trans F0.out
      have t1 := (hb.frozen (p := ⟨w.heap.size + 1, 1, none⟩) hz1).trans F1.out
      have t2 := (hb.frozen (p := ⟨w.heap.size + 1, 2, none⟩) hz1).trans F2.out
      have hbs := hb.size
      have HBr := Lib.hid (HB1.out.trans (hb.mono HB1.out.size))
      by_cases hlt : k < n
      · obtain ⟨i, t, jj, g, o, hx, rfl, hg, c1, c2, c3⟩ := (HN1.out.below hb).get hlt
        obtain ⟨ge, oe, rfl, hge, hje, e1, e2⟩ := (HE1.out.below hb).nth HX.out
        have y1 := (hb.cell (p := ⟨w.heap.size, 1, none⟩) hz0).trans Y1.out
        have i0 : (0 : Int) ≤ (k : Int) := by omega
        have i1 : (k : Int) < (n : Int) := by omega
        have j0 : (0 : Int) ≤ (j : Int) := by omega
        have j1 : (j : Int) < (nE : Int) := by omega
        obtain ⟨W1, hW1⟩ : ∃ W1, W1 = wr.alloc (.cells #[.int .i64 i, .string t, .int .i64 jj] 87) := ⟨_, rfl⟩
        have hr1 : Below wr.heap.size wr W1 := by rw [hW1]; exact (Below.refl _ _).alloc (Nat.le_refl _) _
        have nb := show disk.Box W1 wr.heap.size [.int .i64 i, .string t, .int .i64 jj] from by rw [hW1]; exact Box.new _ _ _
        have n0 := nb.at 0 _ rfl
        have n1 := nb.at 1 _ rfl
        have n2 := nb.at 2 _ rfl
        have u0 := (hr1.cell (p := ⟨w.heap.size + 1, 0, none⟩) (by simp; omega)).trans s0
        have u1 := (hr1.cell (p := ⟨w.heap.size + 1, 1, none⟩) (by simp; omega)).trans s1
        have u2 := (hr1.cell (p := ⟨w.heap.size + 1, 2, none⟩) (by simp; omega)).trans s2
        have v0 := (hr1.frozen (p := ⟨w.heap.size + 1, 0, none⟩) (by simp; omega)).trans t0
        have v1 := (hr1.frozen (p := ⟨w.heap.size + 1, 1, none⟩) (by simp; omega)).trans t1
        have v2 := (hr1.frozen (p := ⟨w.heap.size + 1, 2, none⟩) (by simp; omega)).trans t2
        have y2 := (hr1.cell (p := ⟨w.heap.size, 1, none⟩) (by simp; omega)).trans y1
        have e3 := (hr1.cell (p := ⟨ge, oe + j * 2 + 1, none⟩) hge).trans e2
        have HB2 := Lib.hid (HBr.out.trans (hr1.mono HBr.out.size))
        have HB3 := Lib.hid (hb.trans (hr1.mono hbs))
        have hrs := hr1.size
        clear hr1 nb
        by_cases e : i = en.2
        · have HE := Lib.hid (show nodeAt d s = some (i, t, jj) by rw [HA.out, hf.out, nodeIx_yes hx e]; simpa using hx)
          have hs : (i == en.2) = true := by simpa using e
          clear hx e hf hb
          go_wp2
          rw [← hW1]
          clear hW1 s0 s1 s2 t0 t1 t2 y1
          go_quiet (fail)
          go_wp2
          refine bodyPost_ret (v := .tuple #[.agg #[.int .i64 i, .string t, .int .i64 jj], .bool true]) (by simp [results, Tryz.results112, go_sem, u0, u1, u2]) rfl ⟨by rw [HE.out]; rfl, ?_⟩
          iterate 3 refine Below.setCell ?_ (by first | (simp; done) | (simp; omega)) _
          exact HB2.out.trans ⟨rfl, rfl, rfl, Nat.le_refl _, fun _ _ => rfl⟩
        · have HE := Lib.hid (show nodeIx d.nodes en.2 = (nodeIx (d.nodes.drop (k + 1)) en.2).map (· + (k + 1)) by
            rw [hf.out, nodeIx_no hx e, Option.map_map]
            congr 1
            funext y
            simp
            omega)
          have hs : (i == en.2) = false := by simpa using e
          clear hx e hf hb
          go_wp2
          rw [← hW1]
          clear hW1 s0 s1 s2 t0 t1 t2 y1
          go_quiet (fail)
          go_wp2
          go_roundw
          case rel => exact ⟨k + 1, by omega, by go_num, HE, HB3.out.trans ⟨rfl, rfl, rfl, Nat.le_refl _, fun _ _ => rfl⟩⟩
          case measure => simp [intOf]; omega
      · obtain rfl : k = n := by omega
        have HE := Lib.hid (show nodeAt d s = none by rw [HA.out, hf.out, drop_end HN1.out.len]; rfl)
        clear hf
        go_wp2
        refine bodyPost_ret (v := .tuple #[.agg #[.int .i64 0, .string { data := #[] }, .int .i64 0], .bool false]) (by simp [results, Tryz.results112, go_sem, s0, s1, s2]) rfl ⟨by rw [HE.out]; rfl, ?_⟩
        iterate 3 refine Below.setCell ?_ (by first | (simp; done) | (simp; omega)) _
        exact HBr.out

set_option maxHeartbeats 1000000 in
theorem implReadFile (v : Value) (d : D) (s : ByteArray) (w : World) (hd : wfD d) (hv : IsDisk w v d) :
    Calls Tryz.prog 62 #[v, .string s] w fun e w' => e = .returned (.tuple #[.string (textR (nodeAt d s)), .bool (nodeAt d s).isSome]) ∧ Below w.heap.size w w' := by
  have hv0 := hv
  obtain ⟨aN, aE, aO, aS, n, cN, nE, cE, nO, cO, nS, cS, rfl, hN, hE, hO, hS⟩ := hv
  have HD := Lib.hid hd
  have HV := Lib.hid hv0
  clear hd hv0 hN hE hO hS
  go_enter Tryz.func62, Tryz.ntmps62
  go_wp2_with (fail)
  have q0 : Below w.heap.size w (w.alloc (.cells #[.slice aN n cN, .slice aE nE cE, .slice aO nO cO, .slice aS nS cS, .int .i64 d.room, .int .i64 d.next] 28)) := (Below.refl _ _).alloc (Nat.le_refl _) _
  refine (implNodeAt _ d s _ HD.out (HV.out.below q0)).mono ?_
  rintro e w1 ⟨he, hb1⟩
  obtain ⟨i, j, hn⟩ := nodeV_text (nodeAt d s)
  rw [show nodeR (nodeAt d s) = .tuple #[nodeV (nodeAt d s), .bool (nodeAt d s).isSome] from rfl, hn] at he
  obtain ⟨b, hbb⟩ : ∃ b, b = (nodeAt d s).isSome := ⟨_, rfl⟩
  obtain ⟨t, ht⟩ : ∃ t, t = textR (nodeAt d s) := ⟨_, rfl⟩
  rw [← hbb, ← ht] at he
  have HBB := Lib.hid hbb
  have HT := Lib.hid ht
  clear hbb ht hn
  subst he
  go_wp2
  go_ret2
  exact ⟨by rw [← HT.out, ← HBB.out]; rfl, (q0.trans (hb1.mono q0.size)).alloc (by have := hb1.size; simp at this; omega) _⟩

set_option maxHeartbeats 400000 in
theorem implFileNames (v : Value) (d : D) (w : World) (hm : d.ents.length ≤ 1048576) (hv : IsDisk w v d) :
    Calls Tryz.prog 56 #[v] w (NamesR d w) := by
  obtain ⟨i0, hi, hz0, hz1, hz2⟩ := info_parts Tryz.infoStr
  obtain ⟨aN, aE, aO, aS, nN, cN, n, cE, nO, cO, nS, cS, rfl, hN, hE, hO, hS⟩ := hv
  rw [hE.len] at hm
  have HE := Lib.hid (hE.below (w' := w.alloc (.cells #[.slice aN nN cN, .slice aE n cE, .slice aO nO cO, .slice aS nS cS, .int .i64 d.room, .int .i64 d.next] 28)) ((Below.refl _ _).alloc (Nat.le_refl _) _))
  clear hN hE hO hS
  go_enter Tryz.func56, Tryz.ntmps56
  go_wp2
  obtain ⟨W, hW⟩ : ∃ W, W = w.alloc (.cells #[.slice aN nN cN, .slice aE n cE, .slice aO nO cO, .slice aS nS cS, .int .i64 d.room, .int .i64 d.next] 28) := ⟨_, rfl⟩
  have hB := Lib.hid (show Below w.heap.size w W by rw [hW]; exact (Below.refl _ _).alloc (Nat.le_refl _) _)
  have hz : w.heap.size < W.heap.size := by rw [hW]; simp
  rw [← hW] at HE ⊢
  clear hW
  go_loopw [3, 9] (fun o i wr => ∃ k : Nat, k ≤ n ∧ i = .int .i64 k ∧ wr.ownsRow W.heap.size 9 1 o k (((names d.ents).take k).map Value.string) ∧ Below W.heap.size W wr) (fun _ i _ => n - (intOf i).toNat)
  case atStart => exact ⟨0, Nat.zero_le _, rfl, World.ownsRow_nil _ _ _ _, Below.refl _ _⟩
  case round =>
    obtain ⟨k, hk, rfl, hown, hb⟩ := hrel
    by_cases hlt : k < n
    · obtain ⟨t, i, g, o, hx, rfl, hg, c1, c2⟩ := (HE.out.below hb).get hlt
      have HX := Lib.hid (show (names d.ents).take (k + 1) = (names d.ents).take k ++ [t] by
        have : (names d.ents)[k]? = some t := by unfold names; rw [List.getElem?_map, hx]; rfl
        rw [List.take_add_one, this]
        rfl)
      have i0' : (0 : Int) ≤ (k : Int) := by omega
      have i1' : (k : Int) < (n : Int) := by omega
      obtain ⟨W1, hW1⟩ : ∃ W1, W1 = wr.alloc (.cells #[.string t, .int .i64 i] 71) := ⟨_, rfl⟩
      have hr1 : Below wr.heap.size wr W1 := by rw [hW1]; exact (Below.refl _ _).alloc (Nat.le_refl _) _
      have hs1 : W1.heap.size = wr.heap.size + 1 := by rw [hW1]; simp
      have HW1 := Lib.hid hW1
      have HS1 := Lib.hid hs1
      have hown1 := own_below hown hr1
      have hb1 := hb.trans (hr1.mono hb.size)
      clear hx hown hr1 hW1 hs1
      go_wp2_with (at_builtin; rw [← HS1.out, ← HW1.out]; refine list_app (by rfl) (.tmp 13) (.tmp 16) 26 (by rfl) W W1 9 i0 (.string { data := #[] }) 16 Tryz.underlying26 hi hz0 hz1 hz2 (by rfl) _ k _ hown1 hb1 [.string _] 1 ?_ ?_ ?_ ?_ (by rfl) (by rfl) (by rfl) ?_ ?_; rfl; simp [Value.oneCell']; unfold maxLen; omega; omega; exact ⟨rfl, rfl, rfl⟩; intro v' w' hown' hb')
      go_roundw
      case rel => exact ⟨k + 1, by omega, by go_num, by rw [HX.out, List.map_append]; exact hown', hb'⟩
      case measure => simp [intOf]; omega
    · obtain rfl : k = n := by omega
      have hend : (names d.ents).take k = names d.ents := List.take_of_length_le (by unfold names; rw [List.length_map, HE.out.len]; exact Nat.le_refl _)
      rw [hend] at hown
      clear hend
      go_wp2
      go_ret
      exact ⟨_, rfl, ⟨k, own_base hown (Nat.le_of_lt hz)⟩, hB.out.trans (hb.mono (Nat.le_of_lt hz))⟩

end Go.Proofs.YtiehfobcbhgfkaaGreatDoor.disk

namespace Go.Proofs.YtiehfobcbhgfkaaGreatDoor.kd
set_option maxRecDepth 20000
open Go.RowKit
open kit strs recs disk

theorem iReadFile (v : Value) (d : D) (s : ByteArray) (w : World) (hk : okD d) (hv : IsDisk w v d) :
    Calls Tryz.prog 62 #[v, .string s] w fun e w' => e = .returned (.tuple #[.string (textR (nodeAt d s)), .bool (nodeAt d s).isSome]) ∧ Below w.heap.size w w' :=
  implReadFile v d s w hk.1 hv
theorem iFileNames (v : Value) (d : D) (w : World) (hk : okD d) (hv : IsDisk w v d) :
    Calls Tryz.prog 56 #[v] w fun e w' => ∃ u, e = .returned u ∧ OwnSS w.heap.size w' u (names d.ents) ∧ Below w.heap.size w w' := by
  have hb := hk.2
  unfold bulk bulkN bulkE at hb
  simp only [List.length_map] at hb
  exact implFileNames v d w (by omega) hv

end Go.Proofs.YtiehfobcbhgfkaaGreatDoor.kd
