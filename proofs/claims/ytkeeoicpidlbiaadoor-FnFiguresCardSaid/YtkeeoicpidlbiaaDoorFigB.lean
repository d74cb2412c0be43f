/-
  The walk of laws.FnFigures.
-/
import Derived.Test.YtkeeoicpidlbiaaDoorFigA
import Derived.Test.YtkeeoicpidlbiaaDoorDraw
import Derived.Test.YtkeeoicpidlbiaaDoorRdB
import Derived.Deep.RegionHeld
import Derived.Deep.QuietTactic
import Derived.BigQuiet
import Derived.Lib.ItoaLen
namespace Go.Proofs.YtkeeoicpidlbiaaDoor.fig
open Go.RowKit
open kit

theorem big_no (a : Option Addr) (len cap : Nat) (w : World) (h : len ≤ 1048576) :
    Calls Tryd.prog 6 #[.slice a len cap] w fun e w' => e = .returned (.bool false) ∧ w = w' := by
  have hd : decide (1048576 < (len : Int)) = false := by simp; omega
  go_enter Tryd.func6, Tryd.ntmps6
  go_wp2
  go_ret
  exact ⟨rfl, rfl⟩
theorem big_yes (a : Option Addr) (len cap : Nat) (w : World) (h : 1048576 < len) :
    Calls Tryd.prog 6 #[.slice a len cap] w fun e w' => e = .returned (.bool true) ∧ w = w' := by
  have hd : decide (1048576 < (len : Int)) = true := by simp; omega
  go_enter Tryd.func6, Tryd.ntmps6
  go_wp2
  go_ret
  exact ⟨rfl, rfl⟩

theorem conv_two (X Y : Int) (W : World) (g : Nat) (h0 : W.cell? ⟨g, 0, none⟩ = some (.int .u8 X)) (h1 : W.cell? ⟨g, 1, none⟩ = some (.int .u8 Y)) :
    ∀ dst, Tryd.prog.underlying dst = some .string → (convert 22 dst (.slice (some ⟨g, 0, none⟩) 2 2)).run Tryd.prog W = .ok (.string (strOfNums [X, Y])) W :=
  run_convert_bytes_arg W 22 5 Tryd.underlying22 Tryd.underlying5 g 0 2 2 [X, Y] rfl (fun i hi => by
    rcases (show i = 0 ∨ i = 1 by omega) with rfl | rfl
    · exact h0
    · exact h1)

theorem bcell {W w1 : World} (hb : Below W.heap.size W w1) : ∀ b o, b < W.heap.size → w1.cell? ⟨b, o, none⟩ = W.cell? ⟨b, o, none⟩ := fun b o h => hb.cell (p := ⟨b, o, none⟩) h
theorem get_of {xs : List Int} (hl : xs.length = 12) (hr : ∀ x ∈ xs, 0 ≤ x ∧ x ≤ 9999) (j : Nat) (hj : j < 12) : ∃ p, (xs.map (Value.int .i64))[j]? = some (.int .i64 p) ∧ 0 ≤ p ∧ p ≤ 9999 := by
  have hlt : j < xs.length := by omega
  refine ⟨xs[j], ?_, hr _ (List.getElem_mem hlt)⟩
  rw [List.getElem?_map, List.getElem?_eq_getElem hlt]
  rfl

theorem chain {w1 W w4 : World} (h : Below w1.heap.size w1 W) (h4 : Below W.heap.size W w4) : Below w1.heap.size w1 w4 := h.trans (h4.mono h.size)
theorem brought_same (n least most : Int) (w : World) :
    Calls Tryd.prog 12 #[.int .i64 n, .int .i64 least, .int .i64 most] w fun e w' => e = .returned (.int .i64 (br n least most)) ∧ w' = w :=
  (brought_any n least most w).mono fun _ _ ⟨h1, h2⟩ => ⟨h1, h2.symm⟩
theorem brought_self {n least most : Int} (h : br n least most = n) (w : World) :
    Calls Tryd.prog 12 #[.int .i64 n, .int .i64 least, .int .i64 most] w fun e w' => e = .returned (.int .i64 n) ∧ w' = w :=
  (brought_any n least most w).mono fun _ _ ⟨h1, h2⟩ => ⟨by rw [h1, h], h2.symm⟩
theorem br_bd {n least most : Int} (h : least ≤ most) : least ≤ br n least most ∧ br n least most ≤ most ∧ br (br n least most) least most = br n least most := by
  unfold br
  split <;> split <;> (try split) <;> omega
theorem wrap_small (x : Int) (h0 : -1000000000 ≤ x) (h1 : x ≤ 1000000000) : IntKind.i64.wrap x = x := IntWalk.i64_in _ (by omega)
theorem rd_num (N : Nat) (h : N ≤ 1000000000) : rd.rdV ⟨(Lib.itoa (N : Int)).toArray⟩ = .tuple #[.int .i64 (N : Int), .bool true] :=
  rd.rdV_yes (rd.rd_some.2 ⟨h, (rd.itoa_nat N).symm⟩)

set_option linter.unusedSimpArgs false in
set_option maxHeartbeats 2000000 in
theorem walk_small (a : Option Addr) (len cap : Nat) (w : World) (hc : draw.CodeAt w w.heap.size a len) (ht : Lib.TabIs Tryd.prog w "internal/strconv.uint64pow10" .u64 Lib.pow10Tab)
    (hs : ∃ tp p, w.var? Tryd.prog "strconv.ErrSyntax" = some #[.iface tp p]) (hr : ∃ tp p, w.var? Tryd.prog "strconv.ErrRange" = some #[.iface tp p]) :
    Calls Tryd.prog 3 #[.slice a len cap] w fun e w' => e = .returned (.bool true) ∧ Below w.heap.size w w' := by
  have HT := Lib.hid ht
  have HS := Lib.hid hs
  have HR := Lib.hid hr
  have HC := Lib.hid hc
  have hlen := hc.1
  clear ht hs hr hc
  go_enter Tryd.func3, Tryd.ntmps3
  go_wp2_with fail
  refine (big_no a len cap w hlen).mono ?_
  rintro e w' ⟨rfl, rfl⟩
  go_wp2_with fail
  refine (draw.places_any a len cap w HC.out).mono ?_
  rintro e w1 ⟨v, xs, rfl, hr, hown, b1⟩
  obtain ⟨ad, cp, rfl, hl, _, hf⟩ := own_form hown
  have hl' : xs.length = 12 := by simpa using hl
  obtain ⟨p0, x0, l0, m0⟩ := get_of hl' hr 0 (by omega)
  obtain ⟨p1, x1, l1, m1⟩ := get_of hl' hr 1 (by omega)
  obtain ⟨p2, x2, l2, m2⟩ := get_of hl' hr 2 (by omega)
  obtain ⟨p3, x3, l3, m3⟩ := get_of hl' hr 3 (by omega)
  obtain ⟨p4, x4, l4, m4⟩ := get_of hl' hr 4 (by omega)
  obtain ⟨p5, x5, l5, m5⟩ := get_of hl' hr 5 (by omega)
  obtain ⟨p6, x6, l6, m6⟩ := get_of hl' hr 6 (by omega)
  obtain ⟨p7, x7, l7, m7⟩ := get_of hl' hr 7 (by omega)
  obtain ⟨g, rfl, hg0, hg, hcell, _⟩ := hf.resolve_left (by omega)
  have c0 : w1.cell? ⟨g, 0, none⟩ = some (.int .i64 p0) := (hcell 0 (by omega)).trans x0
  have c1 : w1.cell? ⟨g, 1, none⟩ = some (.int .i64 p1) := (hcell 1 (by omega)).trans x1
  have c2 : w1.cell? ⟨g, 2, none⟩ = some (.int .i64 p2) := (hcell 2 (by omega)).trans x2
  have c3 : w1.cell? ⟨g, 3, none⟩ = some (.int .i64 p3) := (hcell 3 (by omega)).trans x3
  have c4 : w1.cell? ⟨g, 4, none⟩ = some (.int .i64 p4) := (hcell 4 (by omega)).trans x4
  have c5 : w1.cell? ⟨g, 5, none⟩ = some (.int .i64 p5) := (hcell 5 (by omega)).trans x5
  have c6 : w1.cell? ⟨g, 6, none⟩ = some (.int .i64 p6) := (hcell 6 (by omega)).trans x6
  have c7 : w1.cell? ⟨g, 7, none⟩ = some (.int .i64 p7) := (hcell 7 (by omega)).trans x7
  clear hr hown hl hl' x0 x1 x2 x3 x4 x5 x6 x7 hcell hf xs
  have hcv := conv_two (IntKind.u8.wrap p6) (IntKind.u8.wrap p7)
  have hwf5 := Lib.hid (show (Lit.int .i64 p5).wf = true from WalkArith.wf_i64 (by omega))
  have T1 := Lib.hid (laid.tab_below HT.out b1)
  have hil : (Lib.itoa p5).length ≤ 21 := Lib.itoa_length_le p5 (by omega) (by omega)
  have hsl : (strOfNums [IntKind.u8.wrap p6, IntKind.u8.wrap p7]).size ≤ 2 := by rw [strOfNums_size]; exact Nat.le_refl _
  go_wp2_with fail
  go_region_held (fun w' => w'.cell? ⟨g, 5, none⟩ = some (.int .i64 p5) ∧ w'.cell? ⟨g, 6, none⟩ = some (.int .i64 p6) ∧ w'.cell? ⟨g, 7, none⟩ = some (.int .i64 p7)) (first | exact ⟨c5, c6, c7⟩ | exact ⟨q5, q6, q7⟩ | go_keep)
    (first | (go_at_call 8; refine (laid.implDec_any p5 _ hwf5.out (laid.tab_below T1.out ?_)).mono ?_; (first | exact (Below.refl _ _).drew | exact ((Below.refl _ _).alloc (Nat.le_refl _) _).drew); rintro e w2 ⟨rfl, hb2⟩; have hbc := bcell hb2; have q5 : w2.cell? ⟨g, 5, none⟩ = some (.int .i64 p5) := (hb2.cell (p := ⟨g, 5, none⟩) (by simp; omega)).trans (by simp [World.cell?_alloc_some, c5]); have q6 : w2.cell? ⟨g, 6, none⟩ = some (.int .i64 p6) := (hb2.cell (p := ⟨g, 6, none⟩) (by simp; omega)).trans (by simp [World.cell?_alloc_some, c6]); have q7 : w2.cell? ⟨g, 7, none⟩ = some (.int .i64 p7) := (hb2.cell (p := ⟨g, 7, none⟩) (by simp; omega)).trans (by simp [World.cell?_alloc_some, c7])))
  all_goals
    have hts : (({ data := (Lib.itoa p5).toArray } : ByteArray) ++ strOfNums [p6 % 256, p7 % 256]).size ≤ 23 := by
      rw [ByteArray.size_append, strOfNums_size]
      have : ({ data := (Lib.itoa p5).toArray } : ByteArray).size = (Lib.itoa p5).length := rfl
      simp only [List.length_cons, List.length_nil]
      omega
    generalize (({ data := (Lib.itoa p5).toArray } : ByteArray) ++ strOfNums [p6 % 256, p7 % 256]) = t at hts ⊢
    clear hcv hil hsl hbc q5 q6 q7
    go_wp2_with fail
    refine (hex.implHex_any t _ (by omega)).mono ?_
    rintro e w3 ⟨rfl, hb3⟩
    have b3 : Below w1.heap.size w1 w3 := chain (by first | exact ((Below.refl w1.heap.size w1).drew.trans hb2).alloc (by have := hb2.size; simp at this; omega) _ | exact ((Below.refl w1.heap.size w1).alloc (Nat.le_refl _) _).drew.trans (hb2.mono (by simp))) hb3
    have hh := Lib.hid (unhex_hex t)
    have hz := hex_size t
    generalize strOfNums (hex.hexI t.data.toList) = h at hh hz ⊢
    have hz2 := Lib.hid hz
    have hz3 : h.size ≤ 46 := by omega
    clear hz
    go_wp2_with fail
    refine (unh.implUnhex_any h _ (by omega) (by have := hz2.out; omega)).mono ?_
    rw [hh.out]
    rintro e w4 ⟨rfl, hb4⟩
    have b4 := chain b3 hb4
    clear hb2 hb3 hb4 b3
    go_wp2
    have d0 : w4.cell? ⟨g, 0, none⟩ = some (.int .i64 p0) := (b4.cell hg).trans c0
    have d1 : w4.cell? ⟨g, 1, none⟩ = some (.int .i64 p1) := (b4.cell hg).trans c1
    have n1 := wrap_small (p0 * 10000) (by omega) (by omega)
    have n2 := wrap_small (p0 * 10000 + p1) (by omega) (by omega)
    go_quiet (fail)
    clear n1 n2
    obtain ⟨N, hN⟩ : ∃ N : Nat, p0 * 10000 + p1 = (N : Int) := ⟨(p0 * 10000 + p1).toNat, by omega⟩
    have hN2 : N ≤ 1000000000 := by omega
    rw [hN]
    clear hN d0 d1
    have b5 := below_drewN b4 nq
    generalize w4.drewN nq = w5 at b5 ⊢
    clear b4
    go_wp2_with fail
    refine (laid.implDec_any (N : Int) _ (rd.wf_small N (by omega)) (laid.tab_below T1.out b5)).mono ?_
    rintro e w6 ⟨rfl, hb6⟩
    have b6 := chain b5 hb6
    have hN3 : ({ data := (Lib.itoa (N : Int)).toArray } : ByteArray).size ≤ 21 := by
      show (Lib.itoa (N : Int)).toArray.size ≤ 21
      rw [List.size_toArray]
      exact Lib.itoa_length_le _ (by omega) (by omega)
    have hrd := Lib.hid (rd_num N hN2)
    generalize ({ data := (Lib.itoa (N : Int)).toArray } : ByteArray) = y at hN3 hrd ⊢
    go_wp2_with fail
    refine (rd.implRead_any y _ (by omega) (laid.tab_below T1.out b6) (laid.errS_below T1.out (laid.errS_below HT.out HS.out b1) b6) (laid.errR_below T1.out (laid.errR_below HT.out HR.out b1) b6)).mono ?_
    rw [hrd.out]
    rintro e w7 ⟨rfl, hb7⟩
    have b7 := chain b6 hb7
    clear hb6 hb7 b5 b6
    go_wp2
    have d2 : w7.cell? ⟨g, 2, none⟩ = some (.int .i64 p2) := (b7.cell hg).trans c2
    have d3 : w7.cell? ⟨g, 3, none⟩ = some (.int .i64 p3) := (b7.cell hg).trans c3
    have d4 : w7.cell? ⟨g, 4, none⟩ = some (.int .i64 p4) := (b7.cell hg).trans c4
    have n1 := wrap_small (p2 - 5000) (by omega) (by omega)
    have n2 := wrap_small (-p3) (by omega) (by omega)
    go_quiet ((go_at_call 12; exact Calls.quiet_of_same (brought_same _ _ _ _)))
    obtain ⟨e1, e2, e3⟩ := br_bd (n := p2 - 5000) (least := -p3) (most := p4) (by omega)
    generalize br (p2 - 5000) (-p3) p4 = b at e1 e2 e3 ⊢
    have E3 := Lib.hid e3
    clear e3 n1
    go_wp2
    have b8 := below_drewN b7 nq
    generalize w7.drewN nq = w8 at b8 ⊢
    clear b7 d2 d3 d4
    have d3 : w8.cell? ⟨g, 3, none⟩ = some (.int .i64 p3) := (b8.cell hg).trans c3
    have d4 : w8.cell? ⟨g, 4, none⟩ = some (.int .i64 p4) := (b8.cell hg).trans c4
    have n3 := wrap_small (2 * (t.size : Int)) (by omega) (by omega)
    have heq : ((h.size : Int) == 2 * (t.size : Int)) = true := by rw [beq_iff_eq]; have := hz2.out; omega
    go_quiet ((go_at_call 12; exact Calls.quiet_of_same (brought_self E3.out _)))
    go_wp2
    go_ret
    exact ⟨rfl, chain b1 (below_drewN b8 _)⟩

end Go.Proofs.YtkeeoicpidlbiaaDoor.fig
