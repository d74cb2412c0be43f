/-
  Contracts of the draws of lists of records.
-/
import Derived.Test.YtiehfobcbhgfkaaGreatDoorDrawX
import Derived.Test.YtiehfobcbhgfkaaGreatDoorStrQ
import Derived.Test.YtiehfobcbhgfkaaGreatDoorMathX
namespace Go.Proofs.YtiehfobcbhgfkaaGreatDoor.draw
set_option maxRecDepth 20000
open Go.RowKit
open kit

set_option maxHeartbeats 1000000 in
theorem record8_any (B c : Nat) (a : Option Addr) (len cap : Nat) (w : World) (hBc : B ≤ c) (hcw : c < w.heap.size) (hc : CodeAt w B a len) (hu : Cur w c a len cap) :
    Calls Tryz.prog 142 #[.pointer (some ⟨c, 0, none⟩)] w (PostS c a len cap 60 w) := by
  go_enter Tryz.func142, Tryz.ntmps142
  go_wp2_with fail
  refine (below_any B c a len cap 6 w hBc (by omega) hc hu (by omega) (by omega)).mono ?_
  rintro e w1 ⟨⟨x, l1, m1, rfl⟩, u1, g1⟩
  have k1 := hc.grown hBc (by omega) g1
  have s1 := g1.size
  clear hc hu
  rcases (show x = 0 ∨ x = 1 ∨ 1 < x by omega) with rfl | rfl | hgt
  · clear k1
    go_wp2
    go_ret
    exact ⟨⟨_, by show 0 ≤ 60; omega, rfl⟩, u1, g1⟩
  · go_wp2_with fail
    refine (below_any B c a len cap 41 w1 hBc (by omega) k1 u1 (by omega) (by omega)).mono ?_
    rintro e w2 ⟨⟨y, l2, m2, rfl⟩, u2, g2⟩
    have k2 := k1.grown hBc (by omega) g2
    have s2 := g2.size
    have G2 := Lib.hid (grown_trans g1 g2)
    obtain ⟨n, rfl⟩ := Int.eq_ofNat_of_zero_le l2
    clear k1 u1 g1 g2
    go_wp2_with fail
    rw [show (20 : Int) + (n : Int) = ((20 + n : Nat) : Int) by omega]
    refine (text_any B c a len cap (20 + n) w2 hBc (by omega) k2 u2 (by omega)).mono ?_
    rintro e w3 ⟨⟨s, hs, rfl⟩, u3, g3⟩
    clear k2 u2
    go_wp2
    go_ret
    exact ⟨⟨s, by omega, rfl⟩, u3, grown_trans G2.out g3⟩
  · have e0 : (x == 0) = false := by rw [beq_eq_false_iff_ne]; omega
    have e1 : (x == 1) = false := by rw [beq_eq_false_iff_ne]; omega
    go_wp2_with fail
    refine (below_any B c a len cap 12 w1 hBc (by omega) k1 u1 (by omega) (by omega)).mono ?_
    rintro e w2 ⟨⟨y, l2, m2, rfl⟩, u2, g2⟩
    have k2 := k1.grown hBc (by omega) g2
    have s2 := g2.size
    have G2 := Lib.hid (grown_trans g1 g2)
    obtain ⟨n, rfl⟩ := Int.eq_ofNat_of_zero_le l2
    clear k1 u1 g1 g2
    go_wp2_with fail
    refine (text_any B c a len cap n w2 hBc (by omega) k2 u2 (by omega)).mono ?_
    rintro e w3 ⟨⟨s, hs, rfl⟩, u3, g3⟩
    clear k2 u2
    go_wp2
    go_ret
    exact ⟨⟨s, by omega, rfl⟩, u3, grown_trans G2.out g3⟩

/-- a list of records of the call's own; only the cursor is written -/
def PostL (c : Nat) (a : Option Addr) (len cap most : Nat) (w : World) (e : Ending) (w' : World) : Prop :=
  (∃ (v : Value) (n : Nat) (xs : List ByteArray), e = .returned v ∧ n ≤ most ∧ (∀ x ∈ xs, x.size ≤ 60) ∧ w'.ownsRow w.heap.size 9 1 v n (xs.map Value.string)) ∧ Cur w' c a len cap ∧ w.grownBy w' (some c)

set_option maxHeartbeats 1000000 in
theorem records8_any (B c : Nat) (a : Option Addr) (len cap most : Nat) (w : World) (hBc : B ≤ c) (hcw : c < w.heap.size) (hc : CodeAt w B a len) (hu : Cur w c a len cap) (hmost : most ≤ 1000) :
    Calls Tryz.prog 143 #[.pointer (some ⟨c, 0, none⟩), .int .i64 (most : Int)] w (PostL c a len cap most w) := by
  obtain ⟨i0, hi, hz0, hz1, hz2⟩ := info_parts strs.Tryz.infoStr
  go_enter Tryz.func143, Tryz.ntmps143
  go_wp2
  go_loopw [5, 6] (fun v i wr => ∃ (k : Nat) (xs : List ByteArray), k ≤ most ∧ i = .int .i64 k ∧ Hid (∀ x ∈ xs, x.size ≤ 60) ∧ wr.ownsRow w.heap.size 9 1 v k (xs.map Value.string) ∧ Cur wr c a len cap ∧ CodeAt wr B a len ∧ w.grownBy wr (some c)) (fun _ i _ => most + 1 - (intOf i).toNat)
  case atStart => exact ⟨0, [], Nat.zero_le _, rfl, Lib.hid (fun x hx => by cases hx), World.ownsRow_made _ _ _ (Nat.le_refl _) (by decide) rfl, hu.below ((Below.refl _ _).alloc (by omega) _), hc.below ((Below.refl _ _).alloc (by omega) _), World.grownBy_alloc _ _ _⟩
  case round =>
    obtain ⟨k, xs, hk, rfl, hx, hown, hcur, hcode, hgr⟩ := hrel
    have hsz := hgr.size
    go_wp2_with fail
    refine (below_any B c a len cap ((most : Int) + 1) wr hBc (by omega) hcode hcur (by omega) (by omega)).mono ?_
    rintro e w1 ⟨⟨z, l1, m1, rfl⟩, u1, g1⟩
    have k1 := hcode.grown hBc (by omega) g1
    have own1 := hown.kept g1 (own_ne (own_base hown (by omega)))
    have G1 := grown_trans hgr g1
    have s1 := G1.size
    clear hown hcur hcode hgr g1
    by_cases hlt : (k : Int) < z
    · have hkm : k < most := by omega
      go_wp2_with (first | (go_at_call 142; refine (record8_any B c a len cap w1 hBc (by omega) k1 u1).mono ?_; rintro e w2 ⟨⟨x, hx60, rfl⟩, u2, g2⟩; have own2 := own1.kept g2 (own_ne (own_base own1 (by omega))); have sz2 := Nat.le_trans s1 g2.size; have code2 := k1.grown hBc (by omega) g2) | (at_builtin; refine list_app2 (by rfl) (.tmp 16) (.tmp 19) 26 (by rfl) w.heap.size w2 9 i0 (.string { data := #[] }) 16 Tryz.underlying26 hi hz0 hz1 hz2 (by rfl) _ k _ own2 ?_ [.string x] 1 ?_ ?_ ?_ ?_ (by rfl) (by rfl) (by rfl) ?_ ?_; exact sz2; rfl; simp [Value.oneCell']; unfold maxLen; omega; omega; exact ⟨rfl, rfl, rfl⟩; intro v' w' hown' hb'))
      go_roundw
      case rel =>
        refine ⟨k + 1, xs ++ [x], by omega, by go_num, Lib.hid (fun y hy => ?_), by simpa using hown', u2.below (hb'.mono (by omega)), code2.below (hb'.mono (by omega)), grown_below (grown_trans G1 g2) hb'⟩
        rcases List.mem_append.1 hy with hy | hy
        · exact hx.out y hy
        · obtain rfl : y = x := by simpa using hy
          exact hx60
      case measure => simp [intOf]; omega
    · go_wp2
      go_ret
      exact ⟨⟨_, k, xs, rfl, hk, hx.out, own1⟩, u1, G1⟩

end Go.Proofs.YtiehfobcbhgfkaaGreatDoor.draw

namespace Go.Proofs.YtiehfobcbhgfkaaGreatDoor.draw
set_option maxRecDepth 20000
open Go.RowKit
open kit

/-- a head in a block of its own -/
def Hb (w : World) (g : Nat) (a b c d : Int) : Prop := w.heap[g]? = some (.cells #[.int .i64 a, .int .i64 b, .int .i64 c, .int .i64 d] 45 (0, 0))
theorem Hb.lt {w : World} {g : Nat} {a b c d : Int} (h : Hb w g a b c d) : g < w.heap.size := (Array.getElem?_eq_some_iff.1 h).1
theorem Hb.cells {w : World} {g : Nat} {a b c d : Int} (h : Hb w g a b c d) : w.cell? ⟨g, 0, none⟩ = some (.int .i64 a) ∧ w.cell? ⟨g, 1, none⟩ = some (.int .i64 b) ∧ w.cell? ⟨g, 2, none⟩ = some (.int .i64 c) ∧ w.cell? ⟨g, 3, none⟩ = some (.int .i64 d) := by
  have k := fun j => cell_of_row w g j _ 45 (0, 0) h
  exact ⟨(k 0).trans rfl, (k 1).trans rfl, (k 2).trans rfl, (k 3).trans rfl⟩
theorem Hb.frozen {w : World} {g : Nat} {a b c d : Int} (h : Hb w g a b c d) (j : Nat) : w.frozen? ⟨g, j, none⟩ = false := by simp [World.frozen?, show w.heap[g]? = _ from h]
theorem Hb.kept {w w' : World} {g c0 : Nat} {a b c d : Int} (h : Hb w g a b c d) (k : w.grownBy w' (some c0)) (hne : g ≠ c0) : Hb w' g a b c d := (k.block g h.lt (fun e => hne (Option.some.inj e))).trans h
theorem Hb.below {w w' : World} {g : Nat} {a b c d : Int} (h : Hb w g a b c d) (k : Below w.heap.size w w') : Hb w' g a b c d := (k.block g h.lt).trans h
theorem Hb.alloc {w : World} {g : Nat} {a b c d : Int} (h : Hb w g a b c d) (o : Obj) : Hb (w.alloc o) g a b c d := h.below ((Below.refl _ _).alloc (Nat.le_refl _) _)
theorem Hb.new (w : World) (a b c d : Int) : Hb (w.alloc (.cells #[.int .i64 a, .int .i64 b, .int .i64 c, .int .i64 d] 45)) w.heap.size a b c d := heap_alloc_new w _
theorem grown_set {w w' : World} {row : Option Nat} (h : w.grownBy w' row) (b j : Nat) (v : Value) (hb : w.heap.size ≤ b) : w.grownBy (w'.setCell ⟨b, j, none⟩ v) row :=
  ⟨h.os, h.tape, h.output, by simpa using h.size, fun i hi hr => (Below.heap_setCell w' ⟨b, j, none⟩ v i (by show i ≠ b; omega)).trans (h.block i hi hr)⟩
theorem cur_set {w : World} {c b j : Nat} {a : Option Addr} {len cap : Nat} (h : Cur w c a len cap) (v : Value) (hb : c < b) : Cur (w.setCell ⟨b, j, none⟩ v) c a len cap := by
  obtain ⟨i, x, h1, h2⟩ := h
  exact ⟨i, x, h1, (Below.heap_setCell w ⟨b, j, none⟩ v c (by show c ≠ b; omega)).trans h2⟩
/-- some head; only the cursor is written -/
def PostH (c : Nat) (a : Option Addr) (len cap : Nat) (w : World) (e : Ending) (w' : World) : Prop :=
  (∃ x y z u : Int, e = .returned (.agg #[.int .i64 x, .int .i64 y, .int .i64 z, .int .i64 u])) ∧ Cur w' c a len cap ∧ w.grownBy w' (some c)

set_option maxHeartbeats 1000000 in
theorem head8_any (B c : Nat) (a : Option Addr) (len cap : Nat) (w : World) (hBc : B ≤ c) (hcw : c < w.heap.size) (hc : CodeAt w B a len) (hu : Cur w c a len cap) :
    Calls Tryz.prog 187 #[.pointer (some ⟨c, 0, none⟩)] w (PostH c a len cap w) := by
  have hal : Below w.heap.size w (w.alloc (.cells #[.int .i64 0, .int .i64 0, .int .i64 0, .int .i64 0] 45)) := (Below.refl _ _).alloc (Nat.le_refl _) _
  have u0 := hu.below (hal.mono (show c + 1 ≤ w.heap.size by omega))
  have k0 := hc.below (hal.mono (show B ≤ w.heap.size by omega))
  have h0 := Hb.new w 0 0 0 0
  have g0 := World.grownBy_alloc w (.cells #[.int .i64 0, .int .i64 0, .int .i64 0, .int .i64 0] 45) (some c)
  have s0 : w.heap.size < (w.alloc (.cells #[.int .i64 0, .int .i64 0, .int .i64 0, .int .i64 0] 45)).heap.size := by simp
  obtain ⟨W, hW⟩ : ∃ W, W = w.alloc (.cells #[.int .i64 0, .int .i64 0, .int .i64 0, .int .i64 0] 45) := ⟨_, rfl⟩
  rw [← hW] at u0 k0 h0 g0 s0
  clear hc hu hal
  go_enter Tryz.func187, Tryz.ntmps187
  go_wp2_with fail
  rw [← hW]
  clear hW
  refine (below_any B c a len cap 2 W hBc (by omega) k0 u0 (by omega) (by omega)).mono ?_
  rintro e w1 ⟨⟨x1, l1, m1, rfl⟩, u1, g1⟩
  have k1 := k0.grown hBc (by omega) g1
  have h1 := h0.kept g1 (by omega)
  have G1 := grown_trans g0 g1
  have z1 := G1.size
  clear k0 u0 h0 g0 g1
  go_wp2_with fail
  refine (below_any B c a len cap 4 w1 hBc (by omega) k1 u1 (by omega) (by omega)).mono ?_
  rintro e w2 ⟨⟨x2, l2, m2, rfl⟩, u2, g2⟩
  have k2 := k1.grown hBc (by omega) g2
  have h2 := h1.kept g2 (by omega)
  have G2 := grown_trans G1 g2
  have z2 := G2.size
  clear k1 u1 h1 G1 g2 z1
  go_wp2_with fail
  refine (below_any B c a len cap 9 w2 hBc (by omega) k2 u2 (by omega) (by omega)).mono ?_
  rintro e w3 ⟨⟨x3, l3, m3, rfl⟩, u3, g3⟩
  have k3 := k2.grown hBc (by omega) g3
  have h3 := h2.kept g3 (by omega)
  have G3 := grown_trans G2 g3
  have z3 := G3.size
  clear k2 u2 h2 G2 g3 z2
  go_wp2_with fail
  refine (below_any B c a len cap 1000000 w3 hBc (by omega) k3 u3 (by omega) (by omega)).mono ?_
  rintro e w4 ⟨⟨x4, l4, m4, rfl⟩, u4, g4⟩
  have h4 := h3.kept g4 (by omega)
  have G4 := Lib.hid (grown_trans G3 g4)
  have z4 := G4.out.size
  clear k3 u3 h3 G3 g4 z3
  obtain ⟨r0, r1, r2, r3⟩ := h4.cells
  have f0 := h4.frozen 0
  have f1 := h4.frozen 1
  have f2 := h4.frozen 2
  have f3 := h4.frozen 3
  have H4 := Lib.hid h4
  have U4 := Lib.hid u4
  clear h4 u4
  go_wp2
  refine bodyPost_ret (v := .agg #[.int .i64 (1 + x1), .int .i64 (1 + x2), .int .i64 x3, .int .i64 x4]) (by simp [results, Tryz.results187, go_sem, r0, r1, r2, r3]) rfl ⟨⟨_, _, _, _, rfl⟩, cur_set (cur_set (cur_set (cur_set U4.out _ hcw) _ hcw) _ hcw) _ hcw, grown_set (grown_set (grown_set (grown_set G4.out _ _ _ (Nat.le_refl _)) _ _ _ (Nat.le_refl _)) _ _ _ (Nat.le_refl _)) _ _ _ (Nat.le_refl _)⟩

end Go.Proofs.YtiehfobcbhgfkaaGreatDoor.draw
