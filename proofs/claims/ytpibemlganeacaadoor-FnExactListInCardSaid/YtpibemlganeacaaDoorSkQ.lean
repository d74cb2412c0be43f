/-
  The exact walks of PlaceFor, OffsetOf.
-/
import Derived.Test.YtpibemlganeacaaDoorSkP
import Derived.Test.YtpibemlganeacaaDoorPlK
import Derived.Test.YtpibemlganeacaaDoorPlR
namespace Go.Proofs.YtpibemlganeacaaDoor.sk
set_option maxRecDepth 20000
open Go.RowKit
open kit sum num burst hd fr recs sc pl sl

theorem pfR_form (o : Option Plc) : ∃ x y k, pfR o = .tuple #[.agg #[.int .i64 x, .int .i64 y], .bool k] := by
  cases o with
  | none => exact ⟨_, _, _, rfl⟩
  | some r => exact ⟨_, _, _, rfl⟩

end Go.Proofs.YtpibemlganeacaaDoor.sk

namespace Go.Proofs.YtpibemlganeacaaDoor.sk
set_option maxRecDepth 20000
open Go.RowKit
open kit sum num burst hd fr recs sc pl sl

theorem skR_form (o : Option ByteArray) : ∃ t k, skR o = .tuple #[.string t, .bool k] := by
  cases o with
  | none => exact ⟨_, _, rfl⟩
  | some r => exact ⟨_, _, rfl⟩

set_option maxHeartbeats 1000000 in
theorem exactSeekRecord (b : ByteArray) (i : Int) (w : World) (hb : b.size ≤ 9223372036854775807) (hi : recs.wfI i) (hg : sl.GE w) :
    Calls Tryd.prog 4 #[.string b, .int .i64 i] w fun e w' => e = .returned (.bool true) ∧ Below w.heap.size w w' := by
  have HG := Lib.hid hg
  clear hg
  have HI : Hid (i64 i) := Lib.hid hi
  clear hi
  by_cases h1 : 1048576 < b.size
  · go_enter Tryd.func4, Tryd.ntmps4
    go_wp2
    go_ret
    exact ⟨rfl, Below.refl _ _⟩
  · have CS := Lib.hid (fun w => specSeek b i w (by omega) HI.out)
    have CI := Lib.hid (fun w (g : sl.GE w) => implSeek b i w (by omega) HI.out g)
    obtain ⟨t, k, hr⟩ := skR_form (skN b i)
    rw [hr] at CS CI
    clear hr
    go_enter Tryd.func4, Tryd.ntmps4
    go_wp2_with (fail)
    refine (CS.out _).mono ?_
    rintro e w1 ⟨rfl, b1⟩
    go_wp2_with (fail)
    refine (CI.out _ (HG.out.below b1)).mono ?_
    rintro e w2 ⟨rfl, b2⟩
    have B2 := Lib.hid (chain b1 b2)
    clear b1 b2
    go_wp2
    go_ret
    exact ⟨rfl, B2.out⟩

set_option maxHeartbeats 1000000 in
theorem exactReadsFor (b : ByteArray) (i : Int) (w : World) (hb : b.size ≤ 9223372036854775807) (hi : recs.wfI i) (hg : sl.GE w) :
    Calls Tryd.prog 5 #[.string b, .int .i64 i] w fun e w' => e = .returned (.bool true) ∧ Below w.heap.size w w' := by
  have HG := Lib.hid hg
  clear hg
  have HI : Hid (i64 i) := Lib.hid hi
  clear hi
  by_cases h1 : 1048576 < b.size
  · go_enter Tryd.func5, Tryd.ntmps5
    go_wp2
    go_ret
    exact ⟨rfl, Below.refl _ _⟩
  · have CS := Lib.hid (fun w => specReads b i w (by omega) HI.out)
    have CI := Lib.hid (fun w (g : sl.GE w) => implReads b i w (by omega) HI.out g)
    obtain ⟨z, hr⟩ : ∃ z, rfN b i = z := ⟨_, rfl⟩
    rw [hr] at CS CI
    clear hr
    go_enter Tryd.func5, Tryd.ntmps5
    go_wp2_with (fail)
    refine (CS.out _).mono ?_
    rintro e w1 ⟨rfl, b1⟩
    go_wp2_with (fail)
    refine (CI.out _ (HG.out.below b1)).mono ?_
    rintro e w2 ⟨rfl, b2⟩
    have B2 := Lib.hid (chain b1 b2)
    clear b1 b2
    go_wp2
    go_ret
    exact ⟨rfl, B2.out⟩

set_option maxHeartbeats 2000000 in
theorem exactListIn (b : ByteArray) (w : World) (hb : b.size ≤ 9223372036854775807) (hg : sl.GE w) :
    Calls Tryd.prog 3 #[.string b] w fun e w' => e = .returned (.bool true) ∧ Below w.heap.size w w' := by
  have HG := Lib.hid hg
  clear hg
  by_cases h1 : 1048576 < b.size
  · go_enter Tryd.func3, Tryd.ntmps3
    go_wp2
    go_ret
    exact ⟨rfl, Below.refl _ _⟩
  · have CS : Hid (∀ w, Calls Tryd.prog _ _ w _) := Lib.hid (fun w => specListIn b w (by omega))
    have CI : Hid (∀ w (_ : sl.GE w), Calls Tryd.prog _ _ w _) := Lib.hid (fun w g => implListIn b w (by omega) g)
    obtain ⟨xs, y, hxl, hR⟩ : ∃ (xs : List Plc) (y : Bool), xs.length ≤ 1048576 ∧ ∀ w e w', LiR b w e w' → (∃ v, e = .returned (.tuple #[v, .bool y]) ∧ OwnP w.heap.size w' v xs) ∧ Below w.heap.size w w' :=
      ⟨liN b, isS b, by have := liN_le b; omega, fun w e w' h => h⟩
    have HR := Lib.hid hR
    clear hR
    go_enter Tryd.func3, Tryd.ntmps3
    go_wp2_with fail
    refine (CS.out _).mono ?_
    intro e w1 hr
    obtain ⟨⟨v1, rfl, o1⟩, b1⟩ := HR.out _ _ _ hr
    have B1 := Lib.hid b1
    have OW1 := Lib.hid o1
    clear b1 o1 CS hr
    go_wp2_with fail
    refine (CI.out _ (HG.out.below B1.out)).mono ?_
    intro e w2 hr
    obtain ⟨⟨v2, rfl, o2⟩, b2⟩ := HR.out _ _ _ hr
    have B2 := Lib.hid (chain B1.out b2)
    have OG2 := Lib.hid o2
    have OW2 := Lib.hid (OwnP.below OW1.out b2)
    have GW := Lib.hid (OwnP.apart OW1.out OG2.out (Nat.le_refl _))
    have s1 := B1.out.size
    clear b2 o2 OW1 hr
    go_wp2_with fail
    refine (eqP' w2 OG2.out OW2.out).mono ?_
    rintro e w3 ⟨rfl, b3⟩
    have B3 := Lib.hid (chain B2.out b3)
    have OG3 := Lib.hid (OwnP.below OG2.out b3)
    have OW3 := Lib.hid (OwnP.below OW2.out b3)
    clear b3 OG2 OW2
    go_wp2_with fail
    refine (markP' (k := 1) w3 (by omega) OG3.out).mono ?_
    rintro e w4 ⟨rfl, o4, g4⟩
    have B4 := Lib.hid (B3.out.grown g4 B3.out.size (fun k' hk' => Nat.le_trans s1 (OG3.out.lt k' hk').1))
    have OM4 := Lib.hid o4
    have OW4 : Hid (OwnP _ w4 v1 xs) := Lib.hid (World.ownsRow.kept OW3.out g4 GW.out)
    clear o4 g4 OG3 OW3 B3
    go_wp2_with fail
    refine (heldP' (k := 1) w4 (by omega) OM4.out).mono ?_
    rintro e w5 ⟨rfl, b5⟩
    have B5 := Lib.hid (chain B4.out b5)
    have OM5 := Lib.hid (OwnP.below OM4.out b5)
    have OW5 := Lib.hid (OwnP.below OW4.out b5)
    clear b5 OM4 OW4 B4
    go_wp2_with fail
    refine (CI.out _ (HG.out.below B5.out)).mono ?_
    intro e w6 hr
    obtain ⟨⟨v6, rfl, o6⟩, b6⟩ := HR.out _ _ _ hr
    have B6 := Lib.hid (chain B5.out b6)
    have OH6 := Lib.hid o6
    have OM6 := Lib.hid (OwnP.below OM5.out b6)
    have OW6 := Lib.hid (OwnP.below OW5.out b6)
    clear b6 o6 OM5 OW5 B5 hr
    go_wp2_with fail
    refine (eqP' w6 OH6.out OW6.out).mono ?_
    rintro e w7 ⟨rfl, b7⟩
    have B7 := Lib.hid (chain B6.out b7)
    have OM7 := Lib.hid (OwnP.below OM6.out b7)
    clear b7 OM6 OW6 B6 OH6
    go_wp2_with fail
    refine (heldP' (k := 1) w7 (by omega) OM7.out).mono ?_
    rintro e w8 ⟨rfl, b8⟩
    have B8 := Lib.hid (chain B7.out b8)
    clear b8 OM7 B7
    go_wp2
    go_ret
    exact ⟨rfl, B8.out⟩

end Go.Proofs.YtpibemlganeacaaDoor.sk
