/-
  What is asked of impl.SortedNames; the walk of its exact law, given that.
-/
import Derived.Test.YtepecjofngoejaaDoorNameE
namespace Go.Proofs.YtepecjofngoejaaDoor.nam
open Go.RowKit
open kit
open num

/-- a list of its own; nothing of what was there turns -/
def PostL (l : List ByteArray) (w : World) (e : Ending) (w' : World) : Prop :=
  ∃ v, e = .returned v ∧ w'.ownsRow w.heap.size 9 1 v l.length (l.map Value.string) ∧ Below w.heap.size w w'
/-- what impl answers, in worlds where G holds -/
structure ImplS (G : World → Prop) : Prop where
  keep : ∀ w w', G w → Below w.heap.size w w' → G w'
  sorted : ∀ (a : Option Addr) (c n : Nat) (xs : List ByteArray) (w : World), n + strs.tot xs ≤ 1048576 → strs.At w a n xs → G w → Calls Tryd.prog 22 #[.slice a n c] w (PostL (srt xs) w)

theorem own_slice {w : World} {B : Nat} {e : TypeId} {v : Value} {n : Nat} {xs : List Value} (h : w.ownsRow B e 1 v n xs) : ∃ a c, v = .slice a n c := by
  obtain ⟨a, c, h1, _⟩ := own_form h
  exact ⟨a, c, h1⟩
/-- rows that were made one after the other lie apart -/
theorem apart {wa wb : World} {B1 B2 : Nat} {e1 e2 : TypeId} {v1 v2 : Value} {n1 n2 : Nat} {x1 x2 : List Value} (h1 : wa.ownsRow B1 e1 1 v1 n1 x1) (h2 : wb.ownsRow B2 e2 1 v2 n2 x2) (hB : wa.heap.size ≤ B2) : v1.ownBlock = none ∨ v1.ownBlock ≠ v2.ownBlock := by
  cases hb : v1.ownBlock with
  | none => exact .inl rfl
  | some b =>
    right
    intro e
    have := (h1.lt b hb).2
    have := (h2.lt b e.symm).1
    omega
theorem apart' {wa wb : World} {B1 B2 : Nat} {e1 e2 : TypeId} {v1 v2 : Value} {n1 n2 : Nat} {x1 x2 : List Value} (h1 : wa.ownsRow B1 e1 1 v1 n1 x1) (h2 : wb.ownsRow B2 e2 1 v2 n2 x2) (hB : wa.heap.size ≤ B2) : v2.ownBlock = none ∨ v2.ownBlock ≠ v1.ownBlock := by
  cases hb : v2.ownBlock with
  | none => exact .inl rfl
  | some b =>
    right
    intro e
    have := (h1.lt b e.symm).2
    have := (h2.lt b hb).1
    omega

set_option maxHeartbeats 2000000 in
set_option maxRecDepth 20000 in
theorem exactSorted_any (G : World → Prop) (I : ImplS G) (a : Option Addr) (c n : Nat) (xs : List ByteArray) (w : World) (hm : n ≤ 9223372036854775807) (ha : strs.At w a n xs) (hs : ∀ s ∈ xs, s.size ≤ 9223372036854775807) (hG : G w) :
    Calls Tryd.prog 10 #[.slice a n c] w fun e w' => e = .returned (.bool true) ∧ Below w.heap.size w w' := by
  have HG := Lib.hid hG
  have HI := Lib.hid I
  have HA := Lib.hid ha
  have HS := Lib.hid hs
  have hlen := ha.1
  clear hG I ha hs
  by_cases htot : n + strs.tot xs ≤ 1048576
  · have HT := Lib.hid htot
    have HZ := Lib.hid (show strs.szI ((1048576 : Nat) : Int) xs = ((1048576 - n - strs.tot xs : Nat) : Int) by unfold strs.szI; rw [if_pos (by omega)]; omega)
    obtain ⟨z, hz⟩ : ∃ z, 1048576 - n - strs.tot xs = z := ⟨_, rfl⟩
    rw [hz] at HZ
    clear hz
    have hn : n ≤ 1048576 := by omega
    have hsl := srt_length xs
    obtain ⟨l, hl⟩ : ∃ l, srt xs = l := ⟨_, rfl⟩
    rw [hl] at hsl
    have HL := Lib.hid hl
    obtain ⟨m, hml⟩ : ∃ m, l.length = m := ⟨_, rfl⟩
    have HM := Lib.hid hml
    have hm2 : m ≤ 1048576 := by omega
    clear hl htot hml hsl hm
    go_enter Tryd.func10, Tryd.ntmps10
    go_wp2_with fail
    refine (strs.sz_any a c n 1048576 xs w (by omega) (by omega) HA.out HS.out).mono ?_
    rw [HZ.out]
    rintro e w' ⟨rfl, rfl⟩
    go_wp2_with fail
    refine (strs.to_any a c n xs w hn HA.out).mono ?_
    rintro e w1 ⟨rfl, o1, b1⟩
    have A1 := strs.At.of_own o1
    clear o1
    go_wp2_with fail
    refine (specSorted_any _ n n xs w1 hn A1 HS.out).mono ?_
    rw [HL.out, HM.out]
    rintro e w2 ⟨v2, rfl, o2, c2⟩
    have b2 := chain b1 c2
    have hs2 := b2.size
    have OW := Lib.hid o2
    clear A1 c2 b1 o2
    go_wp2_with fail
    refine (strs.to_any a c n xs w2 hn (HA.out.below b2)).mono ?_
    rintro e w3 ⟨rfl, o3, c3⟩
    have b3 := chain b2 c3
    have hs3 := b3.size
    have OX := Lib.hid o3
    have OW3 := Lib.hid (own_below OW.out c3)
    have A3 := strs.At.of_own o3
    clear c3 b2 o3
    go_wp2_with fail
    refine (HI.out.sorted _ n n xs w3 HT.out A3 (HI.out.keep _ _ HG.out b3)).mono ?_
    rw [HL.out]
    rintro e w4 ⟨v4, rfl, o4, c4⟩
    rw [HM.out] at o4
    have b4 := chain b3 c4
    have OG := Lib.hid o4
    have OW4 := Lib.hid (own_below OW3.out c4)
    have OX4 := Lib.hid (own_below OX.out c4)
    have XW := Lib.hid (apart OW.out OX.out (Nat.le_refl _))
    have XG := Lib.hid (apart' OX.out OG.out (Nat.le_refl _))
    have GW := Lib.hid (apart OW3.out OG.out (Nat.le_refl _))
    clear c4 b3 o4 A3 OW3
    go_wp2_with fail
    refine (strs.eqStr_any w4 OG.out OW4.out).mono ?_
    rintro e w5 ⟨rfl, c5⟩
    have b5 := chain b4 c5
    have OG5 := Lib.hid (own_below OG.out c5)
    have OW5 := Lib.hid (own_below OW4.out c5)
    have OX5 := Lib.hid (own_below OX4.out c5)
    clear c5 b4 OW4 OX4
    go_wp2_with fail
    refine (strs.to_any a c n xs w5 hn (HA.out.below b5)).mono ?_
    rintro e w6 ⟨rfl, o6, c6⟩
    have b6 := chain b5 c6
    have OG6 := Lib.hid (own_below OG5.out c6)
    have OW6 := Lib.hid (own_below OW5.out c6)
    have OX6 := Lib.hid (own_below OX5.out c6)
    clear c6 b5 OG5 OW5 OX5
    go_wp2_with fail
    refine (strs.eqStr_any w6 OX6.out o6).mono ?_
    rintro e w7 ⟨rfl, c7⟩
    have b7 := chain b6 c7
    have OG7 := Lib.hid (own_below OG6.out c7)
    have OW7 := Lib.hid (own_below OW6.out c7)
    have OX7 := Lib.hid (own_below OX6.out c7)
    clear c7 b6 OG6 OW6 OX6 o6
    go_wp2_with fail
    refine (strs.mark_any (k := 1) w7 (by omega) (by omega) OX7.out).mono ?_
    rintro e w8 ⟨rfl, o8, g8⟩
    have b8 : Below w.heap.size w w8 := b7.grown g8 b7.size (fun k' hk' => Nat.le_trans hs2 (OX7.out.lt k' hk').1)
    have OG8 := Lib.hid (OG7.out.kept g8 XG.out)
    have OW8 := Lib.hid (OW7.out.kept g8 XW.out)
    clear o8 g8 b7 OG7 OW7 OX7
    go_wp2_with fail
    refine (strs.eqStr_any w8 OG8.out OW8.out).mono ?_
    rintro e w9 ⟨rfl, c9⟩
    have b9 := chain b8 c9
    have OG9 := Lib.hid (own_below OG8.out c9)
    have OW9 := Lib.hid (own_below OW8.out c9)
    clear c9 b8 OG8 OW8
    go_wp2_with fail
    refine (strs.mark_any (k := 1) w9 (by omega) (by omega) OG9.out).mono ?_
    rintro e w10 ⟨rfl, o10, g10⟩
    have b10 : Below w.heap.size w w10 := b9.grown g10 b9.size (fun k' hk' => Nat.le_trans hs3 (OG9.out.lt k' hk').1)
    have OM10 := Lib.hid o10
    have OW10 := Lib.hid (OW9.out.kept g10 GW.out)
    clear o10 g10 b9 OG9 OW9
    go_wp2_with fail
    refine (strs.held_any (k := 1) w10 (by omega) (by omega) OM10.out).mono ?_
    rintro e w11 ⟨rfl, c11⟩
    have b11 := chain b10 c11
    have OM11 := Lib.hid (own_below OM10.out c11)
    have OW11 := Lib.hid (own_below OW10.out c11)
    clear c11 b10 OM10 OW10
    go_wp2_with fail
    refine (strs.to_any a c n xs w11 hn (HA.out.below b11)).mono ?_
    rintro e w12 ⟨rfl, o12, c12⟩
    have b12 := chain b11 c12
    have A12 := strs.At.of_own o12
    have OM12 := Lib.hid (own_below OM11.out c12)
    have OW12 := Lib.hid (own_below OW11.out c12)
    clear c12 b11 OM11 OW11 o12
    go_wp2_with fail
    refine (HI.out.sorted _ n n xs w12 HT.out A12 (HI.out.keep _ _ HG.out b12)).mono ?_
    rw [HL.out]
    rintro e w13 ⟨v13, rfl, o13, c13⟩
    rw [HM.out] at o13
    have b13 := chain b12 c13
    have OH := Lib.hid o13
    have OM13 := Lib.hid (own_below OM12.out c13)
    have OW13 := Lib.hid (own_below OW12.out c13)
    clear c13 b12 OM12 OW12 o13 A12
    go_wp2_with fail
    refine (strs.eqStr_any w13 OH.out OW13.out).mono ?_
    rintro e w14 ⟨rfl, c14⟩
    have b14 := chain b13 c14
    have OM14 := Lib.hid (own_below OM13.out c14)
    clear c14 b13 OM13 OW13
    go_wp2_with fail
    refine (strs.held_any (k := 1) w14 (by omega) (by omega) OM14.out).mono ?_
    rintro e w15 ⟨rfl, c15⟩
    have b15 := chain b14 c15
    clear c15 b14 OM14
    go_wp2
    go_ret
    exact ⟨rfl, b15⟩
  · have HZ := Lib.hid (show strs.szI ((1048576 : Nat) : Int) xs = -1 from if_neg (by omega))
    clear htot
    go_enter Tryd.func10, Tryd.ntmps10
    go_wp2_with fail
    refine (strs.sz_any a c n 1048576 xs w (by omega) hm HA.out HS.out).mono ?_
    rw [HZ.out]
    rintro e w' ⟨rfl, rfl⟩
    go_wp2
    go_ret
    exact ⟨rfl, Below.refl _ _⟩

end Go.Proofs.YtepecjofngoejaaDoor.nam
