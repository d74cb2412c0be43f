/-
  Contracts of impl's disks: DiskNew, EntryAt, NodeAt, UsedOn, FileNames, ReadFile.
-/
import Derived.Test.YtnhcianahmfdhaaDkS
namespace Go.Proofs.Ytnhcianahmfdhaa.disk
open Go.RowKit
open kit strs recs

/-- the place of a name -/
def entIx : List Ent → ByteArray → Option Nat
  | [], _ => none
  | e :: r, s => if e.1 = s then some 0 else (entIx r s).map (· + 1)
theorem entIx_yes {xs : List Ent} {s t : ByteArray} {i : Int} {k : Nat} (h : xs[k]? = some (t, i)) (e : t = s) : entIx (xs.drop k) s = some 0 := by rw [drop_cons h]; simp [entIx, e]
theorem entIx_no {xs : List Ent} {s t : ByteArray} {i : Int} {k : Nat} (h : xs[k]? = some (t, i)) (e : ¬ t = s) : entIx (xs.drop k) s = (entIx (xs.drop (k + 1)) s).map (· + 1) := by rw [drop_cons h]; simp [entIx, e]
theorem entIx_none : ∀ {xs : List Ent} {s : ByteArray}, entIx xs s = none → entAt xs s = none
  | [], s, _ => rfl
  | e :: r, s, h => by
    unfold entIx at h
    unfold entAt
    by_cases hs : e.1 = s
    · rw [if_pos hs] at h; cases h
    · rw [if_neg hs] at h ⊢
      exact entIx_none (by simpa using h)
theorem entIx_some : ∀ {xs : List Ent} {s : ByteArray} {k : Nat}, entIx xs s = some k → ∃ e, xs[k]? = some e ∧ entAt xs s = some e.2
  | [], s, k, h => by cases h
  | e :: r, s, k, h => by
    unfold entIx at h
    unfold entAt
    by_cases hs : e.1 = s
    · rw [if_pos hs] at h ⊢
      simp only [Option.some.injEq] at h
      subst h
      exact ⟨e, rfl, rfl⟩
    · rw [if_neg hs] at h ⊢
      cases hr : entIx r s with
      | none => rw [hr] at h; cases h
      | some j =>
        rw [hr] at h
        simp only [Option.map_some, Option.some.injEq] at h
        subst h
        obtain ⟨e', h1, h2⟩ := entIx_some hr
        exact ⟨e', by simpa using h1, h2⟩

theorem implSame (t s : ByteArray) (i : Int) (b : Nat) (w : World) (hc : w.cell? ⟨b, 0, none⟩ = some (.string s)) (hb : b < w.heap.size) :
    Calls Try.prog 50 #[.agg #[.string t, .int .i64 i], .pointer (some ⟨b, 0, none⟩)] w fun e w' => e = .returned (.bool (decide (t = s))) ∧ Below w.heap.size w w' := by
  have hn : Below w.heap.size w (w.alloc (.cells #[.string t, .int .i64 i] 61)) := (Below.refl _ _).alloc (Nat.le_refl _) _
  have hc2 := (hn.cell (p := ⟨b, 0, none⟩) hb).trans hc
  have HN := Lib.hid hn
  clear hn hc
  by_cases e : t = s
  · have hs := bytes_eq e
    have HE := Lib.hid e
    clear e
    go_enter Try.func50, Try.ntmps50
    go_wp2
    go_ret
    exact ⟨by simp [HE.out], HN.out⟩
  · have hs := bytes_ne e
    have HE := Lib.hid e
    clear e
    go_enter Try.func50, Try.ntmps50
    go_wp2
    go_ret
    exact ⟨by simp [HE.out], HN.out⟩

set_option maxHeartbeats 800000 in
theorem implIndex (a : Option Addr) (c n b : Nat) (xs : List Ent) (s : ByteArray) (w : World) (hm : n ≤ maxLen) (ha : AtE w a n xs) (hc : w.cell? ⟨b, 0, none⟩ = some (.string s)) (hb : b < w.heap.size) :
    Calls Try.prog 49 #[.slice a n c, .func (.func 50) #[] #[.pointer (some ⟨b, 0, none⟩)]] w fun e w' => e = .returned (.int .i64 (ixI (entIx xs s))) ∧ Below w.heap.size w w' := by
  unfold maxLen at hm
  have HA := Lib.hid ha
  have HC := Lib.hid hc
  clear ha hc
  go_enter Try.func49, Try.ntmps49
  go_wp2
  go_loopw [5, 8] (fun _ i wr => ∃ k : Nat, k ≤ n ∧ i = .int .i64 k ∧ Hid (entIx xs s = (entIx (xs.drop k) s).map (· + k)) ∧ Below w.heap.size w wr) (fun _ i _ => n - (intOf i).toNat)
  case atStart => exact ⟨0, Nat.zero_le _, rfl, Lib.hid (by simp), Below.refl _ _⟩
  case round =>
    obtain ⟨k, hk, rfl, hf, hbl⟩ := hrel
    by_cases hlt : k < n
    · obtain ⟨t, i, g, o, hx, rfl, hg, c1, c2⟩ := (HA.out.below hbl).get hlt
      have i0 : (0 : Int) ≤ (k : Int) := by omega
      have i1 : (k : Int) < (n : Int) := by omega
      have hcr := (hbl.cell (p := ⟨b, 0, none⟩) hb).trans HC.out
      have hbr : b < wr.heap.size := Nat.lt_of_lt_of_le hb hbl.size
      have CS := Lib.hid (implSame t s i b wr hcr hbr)
      have HBL := Lib.hid hbl
      clear hcr hbr hbl
      by_cases e : t = s
      · have HE := Lib.hid (show ixI (entIx xs s) = (k : Int) by rw [hf.out, entIx_yes hx e]; simp [ixI])
        rw [show decide (t = s) = true by simp [e]] at CS
        clear hx e
        go_wp2_with (go_at_call 50; refine CS.out.mono ?_; rintro e w1 ⟨rfl, hb1⟩)
        go_ret
        exact ⟨by rw [HE.out]; rfl, HBL.out.trans (hb1.mono HBL.out.size)⟩
      · have HE := Lib.hid (show entIx xs s = (entIx (xs.drop (k + 1)) s).map (· + (k + 1)) by
          rw [hf.out, entIx_no hx e, Option.map_map]
          congr 1
          funext y
          simp
          omega)
        rw [show decide (t = s) = false by simp [e]] at CS
        clear hx e
        go_wp2_with (go_at_call 50; refine CS.out.mono ?_; rintro e w1 ⟨rfl, hb1⟩)
        go_roundw
        case rel => exact ⟨k + 1, by omega, by go_num, HE, HBL.out.trans (hb1.mono HBL.out.size)⟩
        case measure => simp [intOf]; omega
    · obtain rfl : k = n := by omega
      have HE := Lib.hid (show ixI (entIx xs s) = -1 by rw [hf.out, drop_end HA.out.len]; rfl)
      go_wp2
      go_ret
      exact ⟨by rw [HE.out]; rfl, hbl⟩

set_option maxHeartbeats 400000 in
theorem implPlace (a : Option Addr) (c n : Nat) (xs : List Ent) (s : ByteArray) (w : World) (hm : n ≤ maxLen) (ha : AtE w a n xs) :
    Calls Try.prog 40 #[.slice a n c, .string s] w fun e w' => e = .returned (.int .i64 (ixI (entIx xs s))) ∧ Below w.heap.size w w' := by
  have hn : Below w.heap.size w (w.alloc (.cells #[.string s] 9)) := (Below.refl _ _).alloc (Nat.le_refl _) _
  have CI := Lib.hid (implIndex a c n w.heap.size xs s (w.alloc (.cells #[.string s] 9)) hm (ha.below hn) (by simp) (by simp))
  have HN := Lib.hid hn
  clear hn ha
  go_enter Try.func40, Try.ntmps40
  go_wp2_with (go_at_call 49; refine CI.out.mono ?_; rintro e w1 ⟨rfl, hb1⟩)
  go_ret
  exact ⟨rfl, HN.out.trans (hb1.mono HN.out.size)⟩

theorem implDiskNew (room : Int) (w : World) :
    Calls Try.prog 10 #[.int .i64 room] w fun e w' => e = .returned (.agg #[.slice none 0 0, .slice none 0 0, .slice none 0 0, .slice none 0 0, .int .i64 (if room < 0 then 0 else room), .int .i64 1]) ∧ Below w.heap.size w w' := by
  by_cases h : room < 0
  · rw [if_pos h]
    have hmx : max room 0 = 0 := by omega
    go_enter Try.func10, Try.ntmps10
    go_wp2
    refine bodyPost_ret (v := .agg #[.slice none 0 0, .slice none 0 0, .slice none 0 0, .slice none 0 0, .int .i64 0, .int .i64 1]) (by simp [results, Try.results10, go_sem]) rfl ⟨rfl, (Below.refl _ _).alloc (Nat.le_refl _) _⟩
  · rw [if_neg h]
    have hmx : max room 0 = room := by omega
    go_enter Try.func10, Try.ntmps10
    go_wp2
    refine bodyPost_ret (v := .agg #[.slice none 0 0, .slice none 0 0, .slice none 0 0, .slice none 0 0, .int .i64 room, .int .i64 1]) (by simp [results, Try.results10, go_sem]) rfl ⟨rfl, (Below.refl _ _).alloc (Nat.le_refl _) _⟩

set_option maxHeartbeats 400000 in
theorem implEntryAt (a : Option Addr) (c n : Nat) (xs : List Ent) (s : ByteArray) (w : World) (hm : n ≤ maxLen) (ha : AtE w a n xs) :
    Calls Try.prog 17 #[.slice a n c, .string s] w fun e w' => e = .returned (.int .i64 (idE xs s)) ∧ Below w.heap.size w w' := by
  have CP := Lib.hid (implPlace a c n xs s w hm ha)
  have HA := Lib.hid ha
  unfold maxLen at hm
  clear ha
  obtain ⟨o, ho⟩ : ∃ o, o = entIx xs s := ⟨_, rfl⟩
  rw [← ho] at CP
  cases o with
  | none =>
    have HR := Lib.hid (show idE xs s = 0 by unfold idE; rw [entIx_none ho.symm]; rfl)
    clear ho
    rw [show ixI none = -1 from rfl] at CP
    go_enter Try.func17, Try.ntmps17
    go_wp2_with (go_at_call 40; refine CP.out.mono ?_; rintro e w1 ⟨rfl, hb1⟩)
    go_ret
    exact ⟨by rw [HR.out]; rfl, hb1⟩
  | some k =>
    obtain ⟨en, hx, he⟩ := entIx_some ho.symm
    have HR := Lib.hid (show idE xs s = en.2 by unfold idE; rw [he]; rfl)
    have HX := Lib.hid hx
    clear ho hx he
    rw [show ixI (some k) = (k : Int) from rfl] at CP
    go_enter Try.func17, Try.ntmps17
    go_wp2_with (fail)
    refine CP.out.mono ?_
    rintro e w1 ⟨rfl, hb1⟩
    obtain ⟨g, o, rfl, hg, hk, c1, c2⟩ := (HA.out.below hb1).nth HX.out
    have i0 : (0 : Int) ≤ (k : Int) := by omega
    have i1 : (k : Int) < (n : Int) := by omega
    have i2 : ¬ (k : Int) < 0 := by omega
    go_wp2
    go_ret
    exact ⟨by rw [HR.out]; rfl, hb1⟩

end Go.Proofs.Ytnhcianahmfdhaa.disk
