/-
  The walks of the exact laws of what is scanned, but of ScanText's own. impl's contracts come from ScI: implRecords, implSize, implTail, implOpen, implGoes, implLinkAfter.
-/
import Derived.Test.YtbgkdngeingmnaaScP
import Derived.Test.YtbgkdngeingmnaaScI
import Derived.Test.YtbgkdngeingmnaaBig
namespace Go.Proofs.Ytbgkdngeingmnaa.sc
set_option maxRecDepth 20000
open Go.RowKit
open kit sum num burst hd fr

set_option maxHeartbeats 1000000 in
theorem exactSizeScanned (b : ByteArray) (w : World) (hb : b.size ≤ 9223372036854775807) :
    Calls Try.prog 9 #[.string b] w fun e w' => e = .returned (.bool true) ∧ Below w.heap.size w w' := by
  by_cases h1 : 1048576 < b.size
  · go_enter Try.func9, Try.ntmps9
    go_wp2
    go_ret
    exact ⟨rfl, Below.refl _ _⟩
  · have CS := Lib.hid (fun w => specSize b w (by omega))
    have CI := Lib.hid (fun w => implSize b w (by omega))
    obtain ⟨z, hr⟩ : ∃ z, ((endN b : Nat) : Int) = z := ⟨_, rfl⟩
    rw [hr] at CS CI
    clear hr
    go_enter Try.func9, Try.ntmps9
    go_wp2_with (fail)
    refine (CS.out _).mono ?_
    rintro e w1 ⟨rfl, b1⟩
    go_wp2_with (fail)
    refine (CI.out _).mono ?_
    rintro e w2 ⟨rfl, b2⟩
    have B2 := Lib.hid (chain b1 b2)
    clear b1 b2
    go_wp2
    go_ret
    exact ⟨rfl, B2.out⟩

set_option maxHeartbeats 1000000 in
theorem exactTailOf (b : ByteArray) (w : World) (hb : b.size ≤ 9223372036854775807) :
    Calls Try.prog 10 #[.string b] w fun e w' => e = .returned (.bool true) ∧ Below w.heap.size w w' := by
  by_cases h1 : 1048576 < b.size
  · go_enter Try.func10, Try.ntmps10
    go_wp2
    go_ret
    exact ⟨rfl, Below.refl _ _⟩
  · have CS := Lib.hid (fun w => specTail b w (by omega))
    have CI := Lib.hid (fun w => implTail b w (by omega))
    obtain ⟨z, hr⟩ : ∃ z, tailT b = z := ⟨_, rfl⟩
    rw [hr] at CS CI
    clear hr
    go_enter Try.func10, Try.ntmps10
    go_wp2_with (fail)
    refine (CS.out _).mono ?_
    rintro e w1 ⟨rfl, b1⟩
    go_wp2_with (fail)
    refine (CI.out _).mono ?_
    rintro e w2 ⟨rfl, b2⟩
    have B2 := Lib.hid (chain b1 b2)
    clear b1 b2
    go_wp2
    go_ret
    exact ⟨rfl, B2.out⟩

set_option maxHeartbeats 1000000 in
theorem exactOpenOk (b : ByteArray) (w : World) (hb : b.size ≤ 9223372036854775807) :
    Calls Try.prog 11 #[.string b] w fun e w' => e = .returned (.bool true) ∧ Below w.heap.size w w' := by
  by_cases h1 : 1048576 < b.size
  · go_enter Try.func11, Try.ntmps11
    go_wp2
    go_ret
    exact ⟨rfl, Below.refl _ _⟩
  · have CS := Lib.hid (fun w => specOpen b w (by omega))
    have CI := Lib.hid (fun w => implOpen b w (by omega))
    obtain ⟨z, hr⟩ : ∃ z, openB b = z := ⟨_, rfl⟩
    rw [hr] at CS CI
    clear hr
    go_enter Try.func11, Try.ntmps11
    go_wp2_with (fail)
    refine (CS.out _).mono ?_
    rintro e w1 ⟨rfl, b1⟩
    go_wp2_with (fail)
    refine (CI.out _).mono ?_
    rintro e w2 ⟨rfl, b2⟩
    have B2 := Lib.hid (chain b1 b2)
    clear b1 b2
    go_wp2
    go_ret
    exact ⟨rfl, B2.out⟩

set_option maxHeartbeats 1000000 in
theorem exactGoesOn (b : ByteArray) (ba li : Int) (w : World) (hb : b.size ≤ 9223372036854775807) :
    Calls Try.prog 8 #[.string b, .int .i64 ba, .int .i64 li] w fun e w' => e = .returned (.bool true) ∧ Below w.heap.size w w' := by
  by_cases h1 : 1048576 < b.size
  · go_enter Try.func8, Try.ntmps8
    go_wp2
    go_ret
    exact ⟨rfl, Below.refl _ _⟩
  · have CS := Lib.hid (fun w => specGoes b ba li w (by omega))
    have CI := Lib.hid (fun w => implGoes b ba li w (by omega))
    obtain ⟨z, hr⟩ : ∃ z, goesB b ba li = z := ⟨_, rfl⟩
    rw [hr] at CS CI
    clear hr
    go_enter Try.func8, Try.ntmps8
    go_wp2_with (fail)
    refine (CS.out _).mono ?_
    rintro e w1 ⟨rfl, b1⟩
    go_wp2_with (fail)
    refine (CI.out _).mono ?_
    rintro e w2 ⟨rfl, b2⟩
    have B2 := Lib.hid (chain b1 b2)
    clear b1 b2
    go_wp2
    go_ret
    exact ⟨rfl, B2.out⟩

set_option maxHeartbeats 1000000 in
theorem exactLinkAfter (b : ByteArray) (w : World) (hb : b.size ≤ 9223372036854775807) :
    Calls Try.prog 7 #[.string b] w fun e w' => e = .returned (.bool true) ∧ Below w.heap.size w w' := by
  by_cases h1 : 1048576 < b.size
  · go_enter Try.func7, Try.ntmps7
    go_wp2
    go_ret
    exact ⟨rfl, Below.refl _ _⟩
  · have CS := Lib.hid (fun w => specLinkAfter b w (by omega))
    have CI := Lib.hid (fun w => implLinkAfter b w (by omega))
    obtain ⟨z, hr⟩ : ∃ z, ((linkN b : Nat) : Int) = z := ⟨_, rfl⟩
    rw [hr] at CS CI
    clear hr
    go_enter Try.func7, Try.ntmps7
    go_wp2_with (fail)
    refine (CS.out _).mono ?_
    rintro e w1 ⟨rfl, b1⟩
    go_wp2_with (fail)
    refine (CI.out _).mono ?_
    rintro e w2 ⟨rfl, b2⟩
    have B2 := Lib.hid (chain b1 b2)
    clear b1 b2
    go_wp2
    go_ret
    exact ⟨rfl, B2.out⟩

theorem apart {w w' : World} {B B' s s' n n' : Nat} {e e' : TypeId} {u v : Value} {xs ys : List Value} (hu : w.ownsRow B e s u n xs) (hv : w'.ownsRow B' e' s' v n' ys) (h : w.heap.size ≤ B') : u.ownBlock = none ∨ u.ownBlock ≠ v.ownBlock := by
  cases h1 : u.ownBlock with
  | none => exact .inl rfl
  | some g =>
    refine .inr fun h2 => ?_
    have a := (own_block_ge hu g h1).2
    have b := (own_block_ge hv g h2.symm).1
    omega

set_option maxHeartbeats 2000000 in
theorem exactRecordsIn (b : ByteArray) (w : World) (hb : b.size ≤ 9223372036854775807) :
    Calls Try.prog 6 #[.string b] w fun e w' => e = .returned (.bool true) ∧ Below w.heap.size w w' := by
  by_cases h1 : 1048576 < b.size
  · go_enter Try.func6, Try.ntmps6
    go_wp2
    go_ret
    exact ⟨rfl, Below.refl _ _⟩
  · have CS := Lib.hid (fun w => specRecords b w (by omega))
    have CI := Lib.hid (fun w => implRecords b w (by omega))
    have hn := recs_le b
    obtain ⟨xs, hxs⟩ : ∃ xs, recs b = xs := ⟨_, rfl⟩
    rw [hxs] at CS CI hn
    clear hxs
    go_enter Try.func6, Try.ntmps6
    go_wp2_with fail
    refine (CS.out _).mono ?_
    rintro e w1 ⟨⟨v1, rfl, o1⟩, b1⟩
    have B1 := Lib.hid b1
    have OW1 := Lib.hid o1
    clear b1 o1 CS
    go_wp2_with fail
    refine (CI.out _).mono ?_
    rintro e w2 ⟨⟨v2, rfl, o2⟩, b2⟩
    have B2 := Lib.hid (chain B1.out b2)
    have OG2 := Lib.hid o2
    have OW2 := Lib.hid (own_below OW1.out b2)
    have GW := Lib.hid (apart OW1.out OG2.out (Nat.le_refl _))
    have s1 := B1.out.size
    clear b2 o2 OW1
    go_wp2_with fail
    refine (strs.eqStr_any w2 OG2.out OW2.out).mono ?_
    rintro e w3 ⟨rfl, b3⟩
    have B3 := Lib.hid (chain B2.out b3)
    have OG3 := Lib.hid (own_below OG2.out b3)
    have OW3 := Lib.hid (own_below OW2.out b3)
    clear b3 OG2 OW2
    go_wp2_with fail
    refine (strs.mark_any (k := 1) w3 (by omega) (by omega) OG3.out).mono ?_
    rintro e w4 ⟨rfl, o4, g4⟩
    have B4 := Lib.hid (B3.out.grown g4 B3.out.size (fun k' hk' => Nat.le_trans s1 (OG3.out.lt k' hk').1))
    have OM4 := Lib.hid o4
    have OW4 := Lib.hid (OW3.out.kept g4 GW.out)
    clear o4 g4 OG3 OW3 B3
    go_wp2_with fail
    refine (strs.held_any (k := 1) w4 (by omega) (by omega) OM4.out).mono ?_
    rintro e w5 ⟨rfl, b5⟩
    have B5 := Lib.hid (chain B4.out b5)
    have OM5 := Lib.hid (own_below OM4.out b5)
    have OW5 := Lib.hid (own_below OW4.out b5)
    clear b5 OM4 OW4 B4
    go_wp2_with fail
    refine (CI.out _).mono ?_
    rintro e w6 ⟨⟨v6, rfl, o6⟩, b6⟩
    have B6 := Lib.hid (chain B5.out b6)
    have OH6 := Lib.hid o6
    have OM6 := Lib.hid (own_below OM5.out b6)
    have OW6 := Lib.hid (own_below OW5.out b6)
    clear b6 o6 OM5 OW5 B5
    go_wp2_with fail
    refine (strs.eqStr_any w6 OH6.out OW6.out).mono ?_
    rintro e w7 ⟨rfl, b7⟩
    have B7 := Lib.hid (chain B6.out b7)
    have OM7 := Lib.hid (own_below OM6.out b7)
    clear b7 OM6 OW6 B6 OH6
    go_wp2_with fail
    refine (strs.held_any (k := 1) w7 (by omega) (by omega) OM7.out).mono ?_
    rintro e w8 ⟨rfl, b8⟩
    have B8 := Lib.hid (chain B7.out b8)
    clear b8 OM7 B7
    go_wp2
    go_ret
    exact ⟨rfl, B8.out⟩

end Go.Proofs.Ytbgkdngeingmnaa.sc
