/-
  Contract of impl.PlaceFor: its two closures, slices.ContainsFunc and sort.Search.
-/
import Derived.Test.YtpibemlganeacaaGreatDoorMathX
import Derived.Test.YtpibemlganeacaaGreatDoorSkA
import Derived.Laws.EntriesVeiled
import Derived.Test.YtpibemlganeacaaGreatDoorSlR
import Derived.Test.YtpibemlganeacaaGreatDoorPlI
import Derived.Test.YtpibemlganeacaaGreatDoorFrQ
import Derived.Test.YtpibemlganeacaaGreatDoorScR
namespace Go.Proofs.YtpibemlganeacaaGreatDoor.sk
set_option maxRecDepth 20000
open Go.RowKit
open kit sum num burst hd fr recs sc pl sl

theorem AtP.drop {w : World} {g o n k : Nat} {xs : List Plc} (h : AtP w (some ⟨g, o, none⟩) n xs) (hk : k < n) : AtP w (some ⟨g, o + k * 2, none⟩) (n - k) (xs.drop k) := by
  have hl := h.len
  obtain ⟨b, off, h1, h2, h3⟩ := h.2.resolve_left (by omega)
  simp only [Option.some.injEq, Addr.mk.injEq] at h1
  obtain ⟨rfl, rfl, _⟩ := h1
  refine ⟨by rw [cellsP_len, List.length_drop, hl], .inr ⟨g, o + k * 2, rfl, h2, fun j x hj => ?_⟩⟩
  have e : cellsP xs = cellsP (xs.take k) ++ cellsP (xs.drop k) := by rw [← cellsP_app, List.take_append_drop]
  rw [show o + k * 2 + j = o + (k * 2 + j) by omega]
  apply h3
  rw [e, List.getElem?_append_right (by rw [cellsP_len, List.length_take]; omega), cellsP_len, List.length_take, show k * 2 + j - min k xs.length * 2 = j by omega]
  exact hj

/-- where the first one stands whose count is at most i -/
def ixP (i : Int) : List Plc → Option Nat
  | [] => none
  | c :: r => if c.1 ≤ i then some 0 else (ixP i r).map (· + 1)
def ixV : Option Nat → Int
  | none => -1
  | some k => (k : Int)
theorem ixP_yes {i : Int} {xs : List Plc} {k : Nat} {c : Plc} (h : xs[k]? = some c) (hc : c.1 ≤ i) : ixP i (xs.drop k) = some 0 := by
  rw [drop_one h]
  exact if_pos hc
theorem ixP_no {i : Int} {xs : List Plc} {k : Nat} {c : Plc} (h : xs[k]? = some c) (hc : ¬ c.1 ≤ i) : ixP i (xs.drop k) = (ixP i (xs.drop (k + 1))).map (· + 1) := by
  rw [drop_one h]
  exact if_neg hc
theorem ixP_none {i : Int} : ∀ {xs : List Plc}, (ixP i xs).isNone = !(xs.any fun c => decide (c.1 ≤ i))
  | [] => rfl
  | c :: r => by
    rw [List.any_cons, Bool.not_or, ← ixP_none (xs := r)]
    show (if c.1 ≤ i then some 0 else (ixP i r).map (· + 1)).isNone = _
    by_cases hc : c.1 ≤ i
    · rw [if_pos hc, decide_eq_true hc]; rfl
    · rw [if_neg hc, decide_eq_false hc, Option.isNone_map, Bool.not_false, Bool.true_and]
theorem noneN_ix (xs : List Plc) (i : Int) (k : Nat) : noneN xs i k = (ixP i (xs.drop k)).isNone := by rw [ixP_none]; rfl

set_option maxHeartbeats 400000 in
theorem atMostC (c o i : Int) (gI : Nat) (w : World) (hc : w.cell? ⟨gI, 0, none⟩ = some (.int .i64 i)) :
    Calls Tryz.prog 33 #[.agg #[.int .i64 c, .int .i64 o], .pointer (some ⟨gI, 0, none⟩)] w fun e w' => e = .returned (.bool (decide (c ≤ i))) ∧ Below w.heap.size w w' := by
  have hn : Below w.heap.size w (w.alloc (.cells #[.int .i64 c, .int .i64 o] 36)) := (Below.refl _ _).alloc (Nat.le_refl _) _
  have hc2 := (hn.cell (p := ⟨gI, 0, none⟩) (World.block_lt_of_cell? w _ hc)).trans hc
  have HN := Lib.hid hn
  clear hn hc
  go_enter Tryz.func33, Tryz.ntmps33
  go_wp2
  go_ret
  exact ⟨rfl, HN.out⟩
set_option maxHeartbeats 800000 in
theorem indexP (a : Option Addr) (c n gI : Nat) (xs : List Plc) (i : Int) (w : World) (hm : n ≤ 1048576) (ha : AtP w a n xs) (hc : w.cell? ⟨gI, 0, none⟩ = some (.int .i64 i)) :
    Calls Tryz.prog 55 #[.slice a n c, .func (.func 33) #[] #[.pointer (some ⟨gI, 0, none⟩)]] w fun e w' => e = .returned (.int .i64 (ixV (ixP i xs))) ∧ Below w.heap.size w w' := by
  have HA := Lib.hid ha
  have HC := Lib.hid hc
  clear ha hc
  go_enter Tryz.func55, Tryz.ntmps55
  go_wp2
  go_loopw [5, 8] (fun _ q wr => ∃ k : Nat, k ≤ n ∧ q = .int .i64 k ∧ Hid (ixP i xs = (ixP i (xs.drop k)).map (· + k)) ∧ Below w.heap.size w wr) (fun _ q _ => n - (intOf q).toNat)
  case atStart => exact ⟨0, Nat.zero_le _, rfl, Lib.hid (by simp), Below.refl _ _⟩
  case round =>
    obtain ⟨k, hk, rfl, hf, hbl⟩ := hrel
    by_cases hlt : k < n
    · obtain ⟨s, o, g, p, hx, rfl, hg, c1, c2⟩ := (HA.out.below hbl).get hlt
      have i0 : (0 : Int) ≤ (k : Int) := by omega
      have i1 : (k : Int) < (n : Int) := by omega
      have CS := Lib.hid (atMostC s o i gI wr ((hbl.cell (p := ⟨gI, 0, none⟩) (World.block_lt_of_cell? w _ HC.out)).trans HC.out))
      have HBL := Lib.hid hbl
      clear hbl
      by_cases e : s ≤ i
      · have HE := Lib.hid (show ixV (ixP i xs) = (k : Int) by rw [hf.out, ixP_yes hx e]; simp [ixV])
        rw [decide_eq_true e] at CS
        clear hx e hf
        go_wp2_with (go_at_call 33; refine CS.out.mono ?_; rintro e w1 ⟨rfl, hb1⟩)
        go_ret
        exact ⟨by rw [HE.out]; rfl, HBL.out.trans (hb1.mono HBL.out.size)⟩
      · have HE := Lib.hid (show ixP i xs = (ixP i (xs.drop (k + 1))).map (· + (k + 1)) by
          rw [hf.out, ixP_no hx e, Option.map_map]
          congr 1
          funext y
          simp
          omega)
        rw [decide_eq_false e] at CS
        clear hx e hf
        go_wp2_with (go_at_call 33; refine CS.out.mono ?_; rintro e w1 ⟨rfl, hb1⟩)
        go_roundw
        case rel => exact ⟨k + 1, by omega, by go_num, HE, HBL.out.trans (hb1.mono HBL.out.size)⟩
        case measure => simp [intOf]; omega
    · obtain rfl : k = n := by omega
      have HE := Lib.hid (show ixV (ixP i xs) = -1 by rw [hf.out, List.drop_of_length_le (by rw [HA.out.len]; omega)]; rfl)
      go_wp2
      go_ret
      exact ⟨by rw [HE.out]; rfl, hbl⟩
set_option maxHeartbeats 800000 in
theorem containsP (a : Option Addr) (c n gI : Nat) (xs : List Plc) (i : Int) (w : World) (hm : n ≤ 1048576) (ha : AtP w a n xs) (hc : w.cell? ⟨gI, 0, none⟩ = some (.int .i64 i)) :
    Calls Tryz.prog 35 #[.slice a n c, .func (.func 33) #[] #[.pointer (some ⟨gI, 0, none⟩)]] w fun e w' => e = .returned (.bool (ixP i xs).isSome) ∧ Below w.heap.size w w' := by
  have CI := Lib.hid (indexP a c n gI xs i w hm ha hc)
  clear ha hc
  obtain ⟨r, hr⟩ : ∃ r, ixP i xs = r := ⟨_, rfl⟩
  rw [hr] at CI ⊢
  clear hr
  cases r with
  | none =>
    rw [show ixV none = -1 from rfl] at CI
    go_enter Tryz.func35, Tryz.ntmps35
    go_wp2_with (fail)
    refine CI.out.mono ?_
    rintro e w1 ⟨rfl, hb1⟩
    go_wp2
    go_ret
    exact ⟨rfl, hb1⟩
  | some r =>
    rw [show ixV (some r) = (r : Int) from rfl] at CI
    have r0 : (0 : Int) ≤ (r : Int) := by omega
    go_enter Tryz.func35, Tryz.ntmps35
    go_wp2_with (fail)
    refine CI.out.mono ?_
    rintro e w1 ⟨rfl, hb1⟩
    go_wp2
    go_ret
    exact ⟨rfl, hb1⟩

/-- the boxes that the second closure holds: the list, the first closure, and i behind it -/
structure Caps (w : World) (gL gA gI : Nat) (a : Option Addr) (n c : Nat) (xs : List Plc) (i : Int) : Prop where
  list : w.cell? ⟨gL, 0, none⟩ = some (.slice a n c)
  most : w.cell? ⟨gA, 0, none⟩ = some (.func (.func 33) #[] #[.pointer (some ⟨gI, 0, none⟩)])
  i : w.cell? ⟨gI, 0, none⟩ = some (.int .i64 i)
  at_ : AtP w a n xs
theorem Caps.below {w w' : World} {gL gA gI : Nat} {a : Option Addr} {n c : Nat} {xs : List Plc} {i : Int} (h : Caps w gL gA gI a n c xs i) (hb : Below w.heap.size w w') : Caps w' gL gA gI a n c xs i :=
  ⟨(hb.cell (p := ⟨gL, 0, none⟩) (World.block_lt_of_cell? w _ h.list)).trans h.list, (hb.cell (p := ⟨gA, 0, none⟩) (World.block_lt_of_cell? w _ h.most)).trans h.most, (hb.cell (p := ⟨gI, 0, none⟩) (World.block_lt_of_cell? w _ h.i)).trans h.i, h.at_.below hb⟩

set_option maxHeartbeats 800000 in
theorem noneFromC (k gL gA gI c n : Nat) (a : Option Addr) (xs : List Plc) (i : Int) (w : World) (hm : n ≤ 1048576) (hnc : n ≤ c) (hk : k < n) (hc : Caps w gL gA gI a n c xs i) :
    Calls Tryz.prog 34 #[.int .i64 (k : Int), .pointer (some ⟨gL, 0, none⟩), .pointer (some ⟨gA, 0, none⟩)] w fun e w' => e = .returned (.bool (noneN xs i k)) ∧ Below w.heap.size w w' := by
  obtain ⟨s, o, g, p, hx, rfl, hg, _, _⟩ := hc.at_.get hk
  have CO := Lib.hid (fun x : Later w => containsP (some ⟨g, p + k * 2, none⟩) (c - k) (n - k) gI (xs.drop k) i x.val (by omega) ((AtP.drop hc.at_ hk).below x.2) (Later.cell hc.i (World.block_lt_of_cell? w _ hc.i) x))
  have h1 := Later.cell hc.list (World.block_lt_of_cell? w _ hc.list)
  have h2 := Later.cell hc.most (World.block_lt_of_cell? w _ hc.most)
  rw [noneN_ix]
  obtain ⟨r, hr⟩ : ∃ r, ixP i (xs.drop k) = r := ⟨_, rfl⟩
  rw [hr] at CO ⊢
  clear hr hx hc
  have i0 : (0 : Int) ≤ (k : Int) := by omega
  have i1 : (k : Int) ≤ (n : Int) := by omega
  have i2 : (n : Int) ≤ (c : Int) := by omega
  go_enter Tryz.func34, Tryz.ntmps34
  go_wp2
  refine wp_region_later (by kernel_rfl) (by kernel_rfl) ?_
  repeat (first | go_big_quiet_skip | (go_big_quiet_want; go_big_quiet_op; first | go_big_quiet_on | (apply Exists.intro; refine ⟨fun x => ?_, ?_⟩; (go_at_call 35; exact Calls.later (CO.out x)); go_big_quiet_on)))
  refine wpQuiet_nil ?_
  rintro w2 ⟨x2, hx2⟩
  have hb2 : Below w.heap.size w w2 := hx2 ▸ x2.2
  clear hx2 x2
  go_wp2
  go_ret
  cases r with
  | none => exact ⟨rfl, hb2⟩
  | some r => exact ⟨rfl, hb2⟩

set_option maxHeartbeats 1000000 in
/-- sort.Search over the second closure: the place from which on there is none, and ahead of which there is one -/
theorem searchP (gL gA gI c n : Nat) (a : Option Addr) (xs : List Plc) (i : Int) (w : World) (hm : n ≤ 1048576) (hnc : n ≤ c) (hc : Caps w gL gA gI a n c xs i) :
    Calls Tryz.prog 36 #[.int .i64 (n : Int), .func (.func 34) #[] #[.pointer (some ⟨gL, 0, none⟩), .pointer (some ⟨gA, 0, none⟩)]] w fun e w' => (∃ k : Nat, e = .returned (.int .i64 (k : Int)) ∧ k ≤ n ∧ (k = 0 ∨ noneN xs i (k - 1) = false) ∧ (k = n ∨ noneN xs i k = true)) ∧ Below w.heap.size w w' := by
  have HC := Lib.hid hc
  clear hc
  go_enter Tryz.func36, Tryz.ntmps36
  go_wp2
  go_loopw [5, 6] (fun s5 s6 wr => ∃ lo hi : Nat, s5 = .int .i64 (lo : Int) ∧ s6 = .int .i64 (hi : Int) ∧ lo ≤ hi ∧ hi ≤ n ∧ Hid ((lo = 0 ∨ noneN xs i (lo - 1) = false) ∧ (hi = n ∨ noneN xs i hi = true)) ∧ Below w.heap.size w wr) (fun s5 s6 _ => (intOf s6).toNat - (intOf s5).toNat)
  case atStart => exact ⟨0, n, rfl, rfl, Nat.zero_le _, Nat.le_refl _, Lib.hid ⟨.inl rfl, .inl rfl⟩, Below.refl _ _⟩
  case round =>
    obtain ⟨lo, hi, rfl, rfl, hlh, hin, I, hbl⟩ := hrel
    by_cases hlt : lo < hi
    · have hc := noneFromC ((lo + hi) / 2) gL gA gI c n a xs i wr hm hnc (by omega) (HC.out.below hbl)
      rw [show (((lo + hi) / 2 : Nat) : Int) = ((lo : Int) + (hi : Int)) / 2 by omega] at hc
      have HBL := Lib.hid hbl
      clear hbl
      cases hp : noneN xs i ((lo + hi) / 2) with
      | false =>
        rw [hp] at hc
        have HP := Lib.hid hp
        have CN := Lib.hid hc
        clear hp hc
        go_wp2_with (go_at_call 34; refine CN.out.mono ?_; rintro e w1 ⟨rfl, hb1⟩)
        go_roundw
        case rel => exact ⟨(lo + hi) / 2 + 1, hi, by rw [show ((lo : Int) + (hi : Int)) / 2 + 1 = (((lo + hi) / 2 + 1 : Nat) : Int) by omega], rfl, by omega, hin, Lib.hid ⟨.inr (by rw [Nat.add_sub_cancel]; exact HP.out), I.out.2⟩, HBL.out.trans (hb1.mono HBL.out.size)⟩
        case measure => simp [intOf]; omega
      | true =>
        rw [hp] at hc
        have HP := Lib.hid hp
        have CN := Lib.hid hc
        clear hp hc
        go_wp2_with (go_at_call 34; refine CN.out.mono ?_; rintro e w1 ⟨rfl, hb1⟩)
        go_roundw
        case rel => exact ⟨lo, (lo + hi) / 2, rfl, by rw [show ((lo : Int) + (hi : Int)) / 2 = (((lo + hi) / 2 : Nat) : Int) by omega], by omega, by omega, Lib.hid ⟨I.out.1, .inr HP.out⟩, HBL.out.trans (hb1.mono HBL.out.size)⟩
        case measure => simp [intOf]; omega
    · obtain rfl : hi = lo := by omega
      go_wp2
      go_ret
      exact ⟨⟨hi, rfl, hin, I.out⟩, hbl⟩

theorem OwnP.room {B n c : Nat} {w : World} {a : Option Addr} {xs : List Plc} (h : OwnP B w (.slice a n c) xs) : n ≤ c ∧ c ≤ 9223372036854775807 := by
  have h' : w.ownsRow B 36 2 (.slice a n c) xs.length (cellsP xs) := h
  rcases h'.2 with ⟨hv, h0⟩ | ⟨g, cap, cur, hv, hB, hg, hn, hcm, _⟩
  · injection hv with _ e1 e2
    subst e1 e2
    exact ⟨Nat.le_refl _, by omega⟩
  · injection hv with _ e1 e2
    subst e1 e2
    exact ⟨hn, hcm⟩

set_option maxHeartbeats 1000000 in
theorem implPlaceFor (a : Option Addr) (c n : Nat) (xs : List Plc) (i : Int) (w : World) (hm : n ≤ 1048576) (ha : AtP w a n xs) (hr : n ≤ c ∧ c ≤ 9223372036854775807) :
    Calls Tryz.prog 16 #[.slice a n c, .int .i64 i] w fun e w' => e = .returned (pfR (plcFor xs i)) ∧ Below w.heap.size w w' := by
  have hl := Lib.hid ha.len
  have HA := Lib.hid ha
  clear ha
  obtain ⟨W, hW⟩ : ∃ W, W = (((w.alloc (.cells #[.slice a n c] 29)).alloc (.cells #[.int .i64 i] 3)).alloc (.cells #[.int .i64 0, .int .i64 0] 36)).alloc (.cells #[.func (.func 33) #[] #[.pointer (some ⟨w.heap.size + 1, 0, none⟩)]] 62) := ⟨_, rfl⟩
  obtain ⟨bW, cW, xW, sW⟩ : Below w.heap.size w W ∧ Caps W w.heap.size (w.heap.size + 1 + 1 + 1) (w.heap.size + 1) a n c xs i ∧ Box W (w.heap.size + 1 + 1) [.int .i64 0, .int .i64 0] ∧ W.heap.size = w.heap.size + 1 + 1 + 1 + 1 := by
    rw [hW]
    have x0 := Box.new w #[.slice a n c] 29
    have b0 := (Below.refl w.heap.size w).alloc (Nat.le_refl _) (.cells #[.slice a n c] 29)
    obtain ⟨W0, h0⟩ : ∃ W0, W0 = w.alloc (.cells #[.slice a n c] 29) := ⟨_, rfl⟩
    have s0 : W0.heap.size = w.heap.size + 1 := by rw [h0, World.size_alloc]
    rw [← h0] at x0 b0 ⊢
    have x1 := Box.new W0 #[.int .i64 i] 3
    have b1 := (Below.refl W0.heap.size W0).alloc (Nat.le_refl _) (.cells #[.int .i64 i] 3)
    obtain ⟨W1, h1⟩ : ∃ W1, W1 = W0.alloc (.cells #[.int .i64 i] 3) := ⟨_, rfl⟩
    have s1 : W1.heap.size = w.heap.size + 1 + 1 := by rw [h1, World.size_alloc, s0]
    rw [← h1] at x1 b1 ⊢
    rw [s0] at x1
    have x2 := Box.new W1 #[.int .i64 0, .int .i64 0] 36
    have b2 := (Below.refl W1.heap.size W1).alloc (Nat.le_refl _) (.cells #[.int .i64 0, .int .i64 0] 36)
    obtain ⟨W2, h2⟩ : ∃ W2, W2 = W1.alloc (.cells #[.int .i64 0, .int .i64 0] 36) := ⟨_, rfl⟩
    have s2 : W2.heap.size = w.heap.size + 1 + 1 + 1 := by rw [h2, World.size_alloc, s1]
    rw [← h2] at x2 b2 ⊢
    rw [s1] at x2
    have x3 := Box.new W2 #[.func (.func 33) #[] #[.pointer (some ⟨w.heap.size + 1, 0, none⟩)]] 62
    have b3 := (Below.refl W2.heap.size W2).alloc (Nat.le_refl _) (.cells #[.func (.func 33) #[] #[.pointer (some ⟨w.heap.size + 1, 0, none⟩)]] 62)
    rw [s2] at x3
    have b13 := b1.trans ((b2.mono b1.size).trans (b3.mono (Nat.le_trans b1.size b2.size)))
    have b23 := b2.trans (b3.mono b2.size)
    have b03 := b0.trans (b13.mono b0.size)
    refine ⟨b03, ⟨(x0.below b13).at 0 _ rfl, x3.at 0 _ rfl, (x1.below b23).at 0 _ rfl, HA.out.below b03⟩, x2.below b3, ?_⟩
    rw [World.size_alloc, s2]
  have HW := Lib.hid hW
  have CS := Lib.hid (searchP w.heap.size (w.heap.size + 1 + 1 + 1) (w.heap.size + 1) c n a xs i W hm hr.1 cW)
  have BW := Lib.hid bW
  have CW := Lib.hid cW
  have XW := Lib.hid xW
  clear hW bW cW xW
  go_enter Tryz.func16, Tryz.ntmps16
  go_wp2_with (fail)
  rw [← HW.out]
  clear HW
  refine CS.out.mono ?_
  rintro e w2 ⟨⟨k, rfl, hk, h0, h1⟩, b2⟩
  have K0 := Lib.hid h0
  have K1 := Lib.hid h1
  have C2 := CW.out.below b2
  have X2 := XW.out.below b2
  have B2 := Lib.hid (BW.out.trans (b2.mono BW.out.size))
  have l2 := C2.list
  have p0 := X2.at 0 _ rfl
  have p1 := X2.at 1 _ rfl
  have f0 := X2.2 0
  have f1 := X2.2 1
  have A2 := Lib.hid C2.at_
  have B3 := Lib.hid (fun u v => (B2.out.setCell (p := ⟨w.heap.size + 1 + 1, 0, none⟩) (show w.heap.size ≤ w.heap.size + 1 + 1 by omega) u).setCell (p := ⟨w.heap.size + 1 + 1, 1, none⟩) (show w.heap.size ≤ w.heap.size + 1 + 1 by omega) v)
  clear h0 h1 C2 X2 b2 CS sW
  cases k with
  | zero =>
    have HE := Lib.hid (show plcFor xs i = none from (by
      rcases K1.out with h | h
      · have : xs = [] := List.length_eq_zero_iff.1 (by rw [hl.out]; exact h.symm)
        rw [this]; rfl
      · exact halves_none h))
    go_wp2
    refine bodyPost_ret (v := .tuple #[.agg #[.int .i64 0, .int .i64 0], .bool false]) (by simp [results, Tryz.results16, go_sem, p0, p1]) rfl ⟨?_, B3.out _ _⟩
    rw [HE.out]
    rfl
  | succ m =>
    obtain ⟨s, o, g, p, hx, rfl, hg, c0, c1⟩ := A2.out.get (show m < n by omega)
    have HE := Lib.hid (show plcFor xs i = some (s, o) from (by
      rcases K0.out with h | h
      · cases h
      · refine halves_some hx h ?_
        rcases K1.out with h2 | h2
        · rw [h2, ← hl.out]; exact noneN_end xs i
        · exact h2))
    have i0 : (0 : Int) ≤ (m : Int) := by omega
    have i1 : (m : Int) < (n : Int) := by omega
    have ek : ((m + 1 : Nat) : Int) - 1 = (m : Int) := by omega
    have en : ((m + 1 : Nat) : Int) = (m : Int) + 1 := by omega
    clear hx K0 K1
    go_wp2
    refine bodyPost_ret (v := .tuple #[.agg #[.int .i64 s, .int .i64 o], .bool true]) (by simp [results, Tryz.results16, go_sem, p0, p1]) rfl ⟨?_, B3.out _ _⟩
    rw [HE.out]
    rfl

end Go.Proofs.YtpibemlganeacaaGreatDoor.sk

namespace Go.Proofs.YtpibemlganeacaaGreatDoor.sk
set_option maxRecDepth 20000
open Go.RowKit
open kit sum num burst hd fr recs sc pl sl

/-- a head, the places of a sealed file in memory of one's own, and whether it is one -/
def HlR (b : ByteArray) (w : World) (e : Ending) (w' : World) : Prop := (∃ v, e = .returned (.tuple #[.agg #[.int .i64 (sH b).v, .int .i64 (sH b).s, .int .i64 (sH b).b, .int .i64 (sH b).l], v, .bool (isS b)]) ∧ OwnP w.heap.size w' v (liN b)) ∧ Below w.heap.size w w'
theorem own_fourN {B r n k : Nat} {w : World} {E : TypeId} {v : Value} {xs : List Value} (c0 c1 c2 c3 : Value) (h : w.ownsRow B E k v n xs) (hr : ∀ q, v.ownBlock = some q → q ≠ r) : (four w r c0 c1 c2 c3).ownsRow B E k v n xs := by
  have hv : v.ownBlock ≠ some r := fun e => hr r e rfl
  unfold four
  iterate 4 refine own_setOther ?_ _ _ _ hv
  exact h
theorem emT_len (v p : Int) : ((emT v p).size : Int) ≤ 8 := by have := emT_le v p; omega

set_option maxHeartbeats 2000000 in
theorem implHeadAndList (b : ByteArray) (w : World) (hm : b.size ≤ 1048576) (hg : sl.GE w) :
    Calls Tryz.prog 26 #[.string b] w (HlR b w) := by
  have bw := (Below.refl w.heap.size w).alloc (Nat.le_refl _) (.cells #[.int .i64 0, .int .i64 0, .int .i64 0, .int .i64 0] 41)
  have rx := Box.new w #[.int .i64 0, .int .i64 0, .int .i64 0, .int .i64 0] 41
  obtain ⟨W, hW⟩ : ∃ W, W = w.alloc (.cells #[.int .i64 0, .int .i64 0, .int .i64 0, .int .i64 0] 41) := ⟨_, rfl⟩
  rw [← hW] at bw rx
  have CH := Lib.hid (implHeadIn b W hm (hg.below bw))
  have CT := Lib.hid (fun w => implReadTrailer b w hm)
  have CP := Lib.hid (fun a w => implReadPlaces b a w hm)
  have B1 := Lib.hid bw
  have RX := Lib.hid rx
  have HW := Lib.hid hW
  have hn := Lib.hid (recs_le b)
  have hb := Lib.hid (hdOf_base b)
  clear hW bw rx hg
  unfold HlR
  cases hs : isS b with
  | false =>
    rw [sH_no hs]
    have HE := Lib.hid (show liN b = [] by unfold liN; rw [hs]; rfl)
    have e1 : hiR b = .tuple #[.agg #[.int .i64 0, .int .i64 0, .int .i64 0, .int .i64 0], .bool false] := by unfold hiR; rw [sH_no hs, hs]
    rw [e1] at CH
    clear e1 hs
    go_enter Tryz.func26, Tryz.ntmps26
    go_wp2_with (fail)
    rw [← HW.out]
    refine CH.out.mono ?_
    rintro e w2 ⟨rfl, b2⟩
    have RX := RX.out.below b2
    have B2 := Lib.hid (B1.out.trans (b2.mono B1.out.size))
    have s2 : w.heap.size < w2.heap.size := RX.lt
    have ne : w.heap.size ≠ w2.heap.size := by omega
    have p0 := RX.at 0 _ rfl
    have p1 := RX.at 1 _ rfl
    have p2 := RX.at 2 _ rfl
    have p3 := RX.at 3 _ rfl
    have r0 := RX.2 0
    have r1 := RX.2 1
    have r2 := RX.2 2
    have r3 := RX.2 3
    have b4 := Lib.hid ((below_four (.int .i64 0) (.int .i64 0) (.int .i64 0) (.int .i64 0) B2.out (Nat.le_refl w.heap.size)).alloc (by have := B2.out.size; unfold four; simp; omega) (.cells #[.int .i64 0, .int .i64 0, .int .i64 0, .int .i64 0] 41))
    clear b2 B1 HW RX CT CP
    go_wp2
    try simp only [Exit.inBlock, Exit.then]
    refine bodyPost_ret (v := .tuple #[.agg #[.int .i64 0, .int .i64 0, .int .i64 0, .int .i64 0], .slice none 0 0, .bool false]) (by simp [results, Tryz.results26, go_sem, p0, p1, p2, p3, s2]) rfl ⟨⟨_, rfl, ?_⟩, b4.out⟩
    rw [HE.out]
    exact World.ownsRow_nil _ _ _ _
  | true =>
    obtain ⟨s, m, ht⟩ := trail hs
    obtain ⟨q, hq⟩ := list_at hs
    have e1 : hiR b = .tuple #[.agg #[.int .i64 (hdOf b).v, .int .i64 (hdOf b).s, .int .i64 (hdOf b).b, .int .i64 (hdOf b).l], .bool true] := by unfold hiR sH; rw [hs]; rfl
    have e2 : sH b = hdOf b := by unfold sH; rw [hs]; rfl
    have hend := Lib.hid (endN_le b)
    rw [e2]
    rw [e1] at CH
    rw [ht, show rtR (some (endN b, (sc.recs b).length, s, m)) = .tuple #[.int .i64 (endN b : Int), .int .i64 ((sc.recs b).length : Int), .int .i64 (s : Int), .int .i64 (m : Int), .bool true] from rfl] at CT
    clear e1 e2 ht hs
    obtain ⟨v, s', p, l, hv⟩ : ∃ v s' p l, hdOf b = ⟨v, s', p, l⟩ := ⟨_, _, _, _, rfl⟩
    rw [hv] at hb CH hq ⊢
    obtain ⟨n, hnn⟩ : ∃ n, (sc.recs b).length = n := ⟨_, rfl⟩
    rw [hnn] at CT hq hn
    obtain ⟨t, htt⟩ : ∃ t, emT v (p + (n : Int)) = t := ⟨_, rfl⟩
    have CM := Lib.hid (fun w => implMark_any v (p + (n : Int)) w)
    have ht8 := emT_len v (p + (n : Int))
    rw [htt] at CM ht8
    rw [htt] at hq
    obtain ⟨z, hz⟩ : ∃ z, endN b = z := ⟨_, rfl⟩
    rw [hz] at CT hq hend
    have CQ := Lib.hid (fun w => CP.out ((z : Int) + (t.size : Int)) w)
    rw [show (z : Int) + (t.size : Int) = ((z + t.size : Nat) : Int) by omega, hq] at CQ
    rw [show ((z + t.size : Nat) : Int) = (z : Int) + (t.size : Int) by omega] at CQ
    have n0 : (n : Int) ≤ 1048576 := by have := hn.out; omega
    have z0 : (z : Int) ≤ 1048576 := by have := hend.out; omega
    have p0' : 0 ≤ p := hb.out.1
    have p1' : p ≤ 1000000000 := hb.out.2
    clear hv hnn htt hz hq CP
    go_enter Tryz.func26, Tryz.ntmps26
    go_wp2_with (fail)
    rw [← HW.out]
    refine CH.out.mono ?_
    rintro e w2 ⟨rfl, b2⟩
    have hx := Box.new w2 #[.int .i64 v, .int .i64 s', .int .i64 p, .int .i64 l] 41
    have al := (Below.refl w2.heap.size w2).alloc (Nat.le_refl _) (.cells #[.int .i64 v, .int .i64 s', .int .i64 p, .int .i64 l] 41)
    obtain ⟨W3, hW3⟩ : ∃ W3, W3 = w2.alloc (.cells #[.int .i64 v, .int .i64 s', .int .i64 p, .int .i64 l] 41) := ⟨_, rfl⟩
    rw [← hW3] at hx al
    have sW : w.heap.size < W.heap.size := RX.out.lt
    have s2 : w.heap.size < w2.heap.size := Nat.lt_of_lt_of_le sW b2.size
    have R3 := Lib.hid ((RX.out.below b2).below al)
    have B3 := Lib.hid ((B1.out.trans (b2.mono B1.out.size)).trans (al.mono (Nat.le_trans B1.out.size b2.size)))
    have H3 := Lib.hid hx
    have HW3 := Lib.hid hW3
    clear hx al hW3 b2 B1 RX HW CH
    go_wp2_with (fail)
    rw [← HW3.out]
    clear HW3
    refine (CT.out _).mono ?_
    rintro e w4 ⟨rfl, b4⟩
    have R4 := Lib.hid (R3.out.below b4)
    have H4 := Lib.hid (H3.out.below b4)
    have B4 := Lib.hid (B3.out.trans (b4.mono B3.out.size))
    have h0 := H4.out.at 0 _ rfl
    have h2 := H4.out.at 2 _ rfl
    clear b4 R3 H3 B3 CT
    go_wp2_with (fail)
    refine (CM.out _).mono ?_
    rintro e w5 ⟨rfl, b5⟩
    have R5 := Lib.hid (R4.out.below b5)
    have H5 := Lib.hid (H4.out.below b5)
    have B5 := Lib.hid (B4.out.trans (b5.mono B4.out.size))
    clear b5 R4 H4 B4 CM h0 h2
    go_wp2_with (fail)
    refine (CQ.out _).mono ?_
    rintro e w6 ⟨⟨v6, rfl, o6⟩, b6⟩
    have R6 := Lib.hid (R5.out.below b6)
    have H6 := Lib.hid (H5.out.below b6)
    have B6 := Lib.hid (B5.out.trans (b6.mono B5.out.size))
    have sw5 : w.heap.size < w5.heap.size := R5.out.lt
    have O6 : Hid (OwnP w5.heap.size w6 v6 (liN b)) := Lib.hid o6
    have s6 : w2.heap.size < w6.heap.size := H6.out.lt
    clear b6 R5 H5 B5 CQ o6
    have y0 := H6.out.at 0 _ rfl
    have y1 := H6.out.at 1 _ rfl
    have y2 := H6.out.at 2 _ rfl
    have y3 := H6.out.at 3 _ rfl
    have p0 := R6.out.at 0 _ rfl
    have p1 := R6.out.at 1 _ rfl
    have p2 := R6.out.at 2 _ rfl
    have p3 := R6.out.at 3 _ rfl
    have r0 := R6.out.2 0
    have r1 := R6.out.2 1
    have r2 := R6.out.2 2
    have r3 := R6.out.2 3
    have ne : w.heap.size ≠ w2.heap.size := by omega
    have b7 := Lib.hid (below_four (.int .i64 v) (.int .i64 s') (.int .i64 p) (.int .i64 l) B6.out (Nat.le_refl w.heap.size))
    go_wp2
    try simp only [Exit.inBlock, Exit.then]
    refine bodyPost_ret (v := .tuple #[.agg #[.int .i64 v, .int .i64 s', .int .i64 p, .int .i64 l], v6, .bool true]) (by simp [results, Tryz.results26, go_sem, p0, p1, p2, p3]) rfl ⟨⟨_, rfl, ?_⟩, b7.out⟩
    exact own_base (own_fourN (.int .i64 v) (.int .i64 s') (.int .i64 p) (.int .i64 l) O6.out fun q hq => by have := (own_block_ge O6.out q hq).1; omega) (Nat.le_of_lt sw5)

set_option maxHeartbeats 1000000 in
theorem implListIn (b : ByteArray) (w : World) (hm : b.size ≤ 1048576) (hg : sl.GE w) :
    Calls Tryz.prog 12 #[.string b] w (LiR b w) := by
  have CH := Lib.hid (implHeadAndList b w hm hg)
  clear hg
  unfold HlR at CH
  unfold LiR
  obtain ⟨v, s, p, l, hv⟩ := hi_form b
  rw [hv] at CH
  clear hv
  go_enter Tryz.func12, Tryz.ntmps12
  go_wp2_with (fail)
  refine CH.out.mono ?_
  rintro e w1 ⟨⟨v1, rfl, o1⟩, b1⟩
  have al := (Below.refl w1.heap.size w1).alloc (Nat.le_refl _) (.cells #[.int .i64 v, .int .i64 s, .int .i64 p, .int .i64 l] 41)
  have B1 := Lib.hid (b1.trans (al.mono b1.size))
  have O1 := Lib.hid (o1.below al)
  clear b1 o1 al
  go_wp2
  go_ret2
  exact ⟨⟨_, rfl, O1.out⟩, B1.out⟩

/-- what is told at the end of a reading that went on to place j -/
theorem sought_end {b r : ByteArray} {i c : Int} {m t j : Nat} {o : Int} (hi : i64 i) (hs : isS b = true) (hc : RowKit.wrap64 (i - (hdOf b).b) = c) (hp : plcFor (liN b) c = some ((m : Int), o)) (hmc : (m : Int) ≤ c) (hj : j = m + t) (hno : ¬ (hdOf b).b + (j : Int) ≤ i)
    (hr : (t = 0 ∧ r = { data := #[] }) ∨ ∃ k, t = k + 1 ∧ (sc.recs b)[m + k]? = some r ∧ (hdOf b).b + ((m + k : Nat) : Int) ≤ i) : (skN b i).getD { data := #[] } = r ∧ rfN b i = (t : Int) := by
  have hb := hdOf_base b
  unfold i64 at hi
  unfold RowKit.wrap64 at hc
  rcases hr with ⟨rfl, rfl⟩ | ⟨k, rfl, hr, hle⟩
  · have hn := skN_low (b := b) (i := i) (by omega)
    rw [rfN_none hn, hn]
    exact ⟨rfl, rfl⟩
  · have ei : i = (hdOf b).b + ((m + k : Nat) : Int) := by omega
    have hk : skN b i = some r := by rw [ei, skN_in hs]; exact hr
    have ec : i - (hdOf b).b = c := by omega
    refine ⟨by rw [hk]; rfl, ?_⟩
    unfold rfN
    rw [hk, ec, hp]
    show c - (m : Int) + 1 = ((k + 1 : Nat) : Int)
    omega
/-- beyond the last one there is none -/
theorem sought_out {b : ByteArray} {i : Int} (h : (hdOf b).b + ((sc.recs b).length : Int) ≤ i) : skN b i = none := by
  cases hs : isS b with
  | false => exact skN_other hs
  | true =>
    obtain ⟨j, hj⟩ := Int.eq_ofNat_of_zero_le (show 0 ≤ i - (hdOf b).b by omega)
    rw [show i = (hdOf b).b + (j : Int) by omega, skN_in hs]
    exact List.getElem?_eq_none (by omega)

set_option maxHeartbeats 2000000 in
theorem implSought (b : ByteArray) (i : Int) (w : World) (hm : b.size ≤ 1048576) (hi : i64 i) (hg : sl.GE w) :
    Calls Tryz.prog 22 #[.string b, .int .i64 i] w fun e w' => e = .returned (.tuple #[.string ((skN b i).getD { data := #[] }), .int .i64 (rfN b i)]) ∧ Below w.heap.size w w' := by
  have CH := Lib.hid (implHeadAndList b w hm hg)
  have CF := Lib.hid (fun v p a w => implReadF_any v p b a w hm)
  have HI := Lib.hid hi
  have hn := recs_le b
  have hll := liN_le b
  have hb := Lib.hid (hdOf_base b)
  clear hg hi
  unfold HlR at CH
  obtain ⟨c, hc⟩ : ∃ c, RowKit.wrap64 (i - (sH b).b) = c := ⟨_, rfl⟩
  cases hp : plcFor (liN b) c with
  | none =>
    have HE := Lib.hid (show skN b i = none from (by
      cases hs : isS b with
      | false => exact skN_other hs
      | true =>
        have e2 : sH b = hdOf b := by unfold sH; rw [hs]; rfl
        rw [e2] at hc
        have hb := hb.out
        have hi := HI.out
        unfold i64 at hi
        unfold RowKit.wrap64 at hc
        exact plc_none (fun _ => by omega) hp))
    have HR := Lib.hid (rfN_none HE.out)
    have HP := Lib.hid (show pfR (plcFor (liN b) c) = .tuple #[.agg #[.int .i64 0, .int .i64 0], .bool false] by rw [hp]; rfl)
    obtain ⟨v, s, p, l, hv⟩ := hi_form b
    rw [hv] at CH hc
    rw [HE.out, HR.out]
    clear hv hp HE HR CF HI
    obtain ⟨d, hd⟩ : ∃ d, isS b = d := ⟨_, rfl⟩
    rw [hd] at CH
    clear hd
    go_enter Tryz.func22, Tryz.ntmps22
    go_wp2_with (fail)
    refine CH.out.mono ?_
    rintro e w1 ⟨⟨v1, rfl, o1⟩, b1⟩
    obtain ⟨a1, c1, rfl, _, _, _⟩ := o1.formP
    have hr1 := OwnP.room o1
    have hx := Box.new w1 #[.int .i64 v, .int .i64 s, .int .i64 p, .int .i64 l] 41
    have al := (Below.refl w1.heap.size w1).alloc (Nat.le_refl _) (.cells #[.int .i64 v, .int .i64 s, .int .i64 p, .int .i64 l] 41)
    obtain ⟨W2, hW2⟩ : ∃ W2, W2 = w1.alloc (.cells #[.int .i64 v, .int .i64 s, .int .i64 p, .int .i64 l] 41) := ⟨_, rfl⟩
    rw [← hW2] at hx al
    have x2 := hx.at 2 _ rfl
    have B2 := Lib.hid (b1.trans (al.mono b1.size))
    have A2 := Lib.hid ((AtP.of_own o1).below al)
    have CP := Lib.hid (implPlaceFor a1 c1 (liN b).length (liN b) c W2 (by omega) A2.out hr1)
    rw [HP.out] at CP
    have HW2 := Lib.hid hW2
    clear b1 o1 al hx hW2 hr1 CH
    go_wp2_with (fail)
    rw [← HW2.out]
    refine CP.out.mono ?_
    rintro e w3 ⟨rfl, b3⟩
    have al := (Below.refl w3.heap.size w3).alloc (Nat.le_refl _) (.cells #[.int .i64 0, .int .i64 0] 36)
    have B3 := Lib.hid (chain (chain B2.out b3) al)
    clear b3 al HW2 CP x2
    go_wp2
    go_ret2
    exact ⟨rfl, B3.out⟩
  | some x =>
    have hs : isS b = true := by
      cases hs : isS b with
      | true => rfl
      | false =>
        have : liN b = [] := by unfold liN; rw [hs]; rfl
        rw [this] at hp
        cases hp
    obtain ⟨m, rfl, hmn, hmc⟩ := plc_in hs hp
    have e2 : sH b = hdOf b := by unfold sH; rw [hs]; rfl
    rw [e2] at hc CH
    rw [hs] at CH
    have HP := Lib.hid (show pfR (plcFor (liN b) c) = .tuple #[.agg #[.int .i64 (m : Int), .int .i64 ((tx (hdOf b) (sc.recs b) m).size : Int)], .bool true] by rw [hp]; rfl)
    have HEND := Lib.hid (fun r t j h1 h2 h3 => sought_end (r := r) (t := t) (j := j) HI.out hs hc hp hmc h1 h2 h3)
    have HOUT := Lib.hid (fun h => sought_out (b := b) (i := i) h)
    have HRD := Lib.hid (fun r j h => rd_at (r := r) (j := j) hs h)
    have HRE := Lib.hid (rd_end hs)
    obtain ⟨f, hf⟩ : ∃ f : Nat → Nat, f = fun k => (tx (hdOf b) (sc.recs b) k).size := ⟨_, rfl⟩
    have hf' : ∀ k, (tx (hdOf b) (sc.recs b) k).size = f k := fun k => by rw [hf]
    simp only [hf'] at HP HRD HRE
    obtain ⟨v, s, p, l, hv⟩ : ∃ v s p l, hdOf b = ⟨v, s, p, l⟩ := ⟨_, _, _, _, rfl⟩
    rw [hv] at hb HRE hc CH
    simp only [hv] at HEND HOUT HRD
    obtain ⟨n, hnn⟩ : ∃ n, (sc.recs b).length = n := ⟨_, rfl⟩
    rw [hnn] at hn hmn HRE HOUT
    have HN := Lib.hid hnn
    have p0 : 0 ≤ p := hb.out.1
    have p1 : p ≤ 1000000000 := hb.out.2
    have n1 : (n : Int) ≤ 1048576 := by omega
    have m1 : (m : Int) ≤ (n : Int) := by omega
    clear hv hp e2 hs hf hf' hnn hmc HI
    go_enter Tryz.func22, Tryz.ntmps22
    go_wp2_with (fail)
    refine CH.out.mono ?_
    rintro e w1 ⟨⟨v1, rfl, o1⟩, b1⟩
    obtain ⟨a1, c1, rfl, _, _, _⟩ := o1.formP
    have hr1 := OwnP.room o1
    have hx := Box.new w1 #[.int .i64 v, .int .i64 s, .int .i64 p, .int .i64 l] 41
    have al := (Below.refl w1.heap.size w1).alloc (Nat.le_refl _) (.cells #[.int .i64 v, .int .i64 s, .int .i64 p, .int .i64 l] 41)
    obtain ⟨W2, hW2⟩ : ∃ W2, W2 = w1.alloc (.cells #[.int .i64 v, .int .i64 s, .int .i64 p, .int .i64 l] 41) := ⟨_, rfl⟩
    rw [← hW2] at hx al
    have x2 := hx.at 2 _ rfl
    have HX := Lib.hid hx
    have B2 := Lib.hid (b1.trans (al.mono b1.size))
    have A2 := Lib.hid ((AtP.of_own o1).below al)
    have CP := Lib.hid (implPlaceFor a1 c1 (liN b).length (liN b) c W2 (by omega) A2.out hr1)
    rw [HP.out] at CP
    have HW2 := Lib.hid hW2
    clear b1 o1 al hx hW2 hr1 CH
    go_wp2_with (fail)
    rw [← HW2.out]
    refine CP.out.mono ?_
    rintro e w3 ⟨rfl, b3⟩
    have al := (Below.refl w3.heap.size w3).alloc (Nat.le_refl _) (.cells #[.int .i64 (m : Int), .int .i64 (f m : Int)] 36)
    have bx := Box.new w3 #[.int .i64 (m : Int), .int .i64 (f m : Int)] 36
    obtain ⟨W4, hW4⟩ : ∃ W4, W4 = w3.alloc (.cells #[.int .i64 (m : Int), .int .i64 (f m : Int)] 36) := ⟨_, rfl⟩
    rw [← hW4] at bx al
    have B4 := Lib.hid (chain (chain B2.out b3) al)
    have H4 := Lib.hid ((HX.out.below b3).below al)
    have q0 := bx.at 0 _ rfl
    have q1 := bx.at 1 _ rfl
    have y2 := H4.out.at 2 _ rfl
    have HW4 := Lib.hid hW4
    clear b3 al bx HW2 hW4 CP x2 HX B2 A2 HP
    go_upto_region 5 with fail
    rw [← HW4.out]
    clear HW4
    go_region
    go_wp2
    go_loopw [11, 12, 13, 14] (fun r nx rd pl wr => ∃ (t j : Nat) (x : ByteArray), r = .string x ∧ nx = .int .i64 (f j : Int) ∧ rd = .int .i64 (t : Int) ∧ pl = .int .i64 (p + (j : Int)) ∧ j ≤ n ∧ t ≤ j ∧ Hid (j = m + t ∧ ((t = 0 ∧ x = { data := #[] }) ∨ ∃ k, t = k + 1 ∧ (sc.recs b)[m + k]? = some x ∧ p + ((m + k : Nat) : Int) ≤ i)) ∧ Below W4.heap.size W4 wr) (fun _ _ rd _ _ => n - (intOf rd).toNat)
    case atStart => exact ⟨0, m, { data := #[] }, rfl, rfl, rfl, rfl, by omega, Nat.zero_le _, Lib.hid ⟨rfl, .inl ⟨rfl, rfl⟩⟩, (Below.refl _ _).drew⟩
    case round =>
      obtain ⟨t, j, x, rfl, rfl, rfl, rfl, hjn, htj, I, hbl⟩ := hrel
      have y0 := (H4.out.below hbl).at 0 _ rfl
      have B5 := Lib.hid (chain B4.out hbl)
      have BL := Lib.hid hbl
      have j1 : (j : Int) ≤ 1048576 := by omega
      have t1 : (t : Int) ≤ 1048576 := by omega
      clear hbl q0 q1 y2
      by_cases hle : p + (j : Int) ≤ i
      · by_cases hlt : j < n
        · have hr := List.getElem?_eq_getElem (show j < (sc.recs b).length by rw [HN.out]; exact hlt)
          obtain ⟨r, hr'⟩ : ∃ r, (sc.recs b)[j]'(by rw [HN.out]; exact hlt) = r := ⟨_, rfl⟩
          rw [hr'] at hr
          have CJ := CF.out v (p + (j : Int)) (f j : Int) wr
          rw [HRD.out r j hr, show frR (some (r, f (j + 1))) = .tuple #[.string r, .int .i64 (f (j + 1) : Int), .bool true] from rfl] at CJ
          have CK := Lib.hid CJ
          have I2 : Hid (j + 1 = m + (t + 1) ∧ ((t + 1 = 0 ∧ r = { data := #[] }) ∨ ∃ k, t + 1 = k + 1 ∧ (sc.recs b)[m + k]? = some r ∧ p + ((m + k : Nat) : Int) ≤ i)) := Lib.hid ⟨by have := I.out.1; omega, .inr ⟨t, rfl, by rw [← I.out.1]; exact hr, by rw [← I.out.1]; exact hle⟩⟩
          obtain ⟨u, hu⟩ : ∃ u, f (j + 1) = u := ⟨_, rfl⟩
          rw [hu] at CK
          have HU := Lib.hid hu
          clear CJ hr hr' hu I
          go_wp2_with (fail)
          refine CK.out.mono ?_
          rintro e w6 ⟨rfl, b6⟩
          go_wp2
          go_roundw
          case rel => exact ⟨t + 1, j + 1, r, rfl, by rw [HU.out], by go_num, by rw [show p + ((j + 1 : Nat) : Int) = p + (j : Int) + 1 by omega], by omega, by omega, I2, BL.out.trans (b6.mono BL.out.size)⟩
          case measure => simp [intOf]; omega
        · obtain rfl : j = n := by omega
          have CJ := CF.out v (p + (j : Int)) (f j : Int) wr
          rw [HRE.out, show frR none = .tuple #[.string { data := #[] }, .int .i64 0, .bool false] from rfl] at CJ
          have CK := Lib.hid CJ
          have HE := Lib.hid (HOUT.out hle)
          have HR := Lib.hid (rfN_none HE.out)
          clear CJ
          go_wp2_with (fail)
          refine CK.out.mono ?_
          rintro e w6 ⟨rfl, b6⟩
          go_wp2
          go_ret2
          rw [HE.out, HR.out]
          exact ⟨rfl, chain B5.out b6⟩
      · obtain ⟨e1, e2⟩ := HEND.out x t j I.out.1 (by omega) I.out.2
        have HE := Lib.hid e1
        have HR := Lib.hid e2
        clear e1 e2 I
        go_wp2
        go_ret2
        rw [HE.out, HR.out]
        exact ⟨rfl, B5.out⟩

theorem implSeek (b : ByteArray) (i : Int) (w : World) (hm : b.size ≤ 1048576) (hi : i64 i) (hg : sl.GE w) :
    Calls Tryz.prog 6 #[.string b, .int .i64 i] w fun e w' => e = .returned (skR (skN b i)) ∧ Below w.heap.size w w' := by
  have C := Lib.hid (implSought b i w hm hi hg)
  clear hg
  cases hk : skN b i with
  | none =>
    rw [hk, rfN_none hk] at C
    clear hk
    go_enter Tryz.func6, Tryz.ntmps6
    go_wp2_with (fail)
    refine C.out.mono ?_
    rintro e w1 ⟨rfl, b1⟩
    go_wp2
    go_ret2
    exact ⟨rfl, b1⟩
  | some r =>
    obtain ⟨hs, j, hij, hr⟩ := skN_some hk
    have h1 := (rfN_in hs hr).1
    rw [← hij] at h1
    rw [hk] at C
    obtain ⟨q, hq⟩ : ∃ q, rfN b i = q := ⟨_, rfl⟩
    rw [hq] at C h1
    have h2 : 0 < q := by omega
    have h3 : decide (0 < q) = true := decide_eq_true h2
    clear hk hij hr hq
    go_enter Tryz.func6, Tryz.ntmps6
    go_wp2_with (fail)
    refine C.out.mono ?_
    rintro e w1 ⟨rfl, b1⟩
    go_wp2
    go_ret2
    exact ⟨rfl, b1⟩
theorem implReads (b : ByteArray) (i : Int) (w : World) (hm : b.size ≤ 1048576) (hi : i64 i) (hg : sl.GE w) :
    Calls Tryz.prog 10 #[.string b, .int .i64 i] w fun e w' => e = .returned (.int .i64 (rfN b i)) ∧ Below w.heap.size w w' := by
  have C := Lib.hid (implSought b i w hm hi hg)
  clear hg
  obtain ⟨q, hq⟩ : ∃ q, rfN b i = q := ⟨_, rfl⟩
  obtain ⟨t, ht⟩ : ∃ t, (skN b i).getD { data := #[] } = t := ⟨_, rfl⟩
  rw [hq, ht] at C
  rw [hq]
  clear hq ht
  go_enter Tryz.func10, Tryz.ntmps10
  go_wp2_with (fail)
  refine C.out.mono ?_
  rintro e w1 ⟨rfl, b1⟩
  go_wp2
  go_ret
  exact ⟨rfl, b1⟩

end Go.Proofs.YtpibemlganeacaaGreatDoor.sk

namespace Go.Proofs.YtpibemlganeacaaGreatDoor.sk
set_option maxRecDepth 20000
open Go.RowKit
open kit sum num burst hd fr recs sc pl sl

/-- by the number that is left when the base is taken away, which may go round -/
theorem ofN_by {b : ByteArray} {i c : Int} (hi : i64 i) (hm : b.size ≤ 1048576) (hc : RowKit.wrap64 (i - (hdOf b).b) = c) : ofN b i = if 0 ≤ c ∧ c < ((sc.recs b).length : Int) then ((offI b)[c.toNat]?).getD (-1) else -1 := by
  have hb := hdOf_base b
  have hn := recs_le b
  unfold i64 at hi
  unfold RowKit.wrap64 at hc
  cases h0 : (rdH b).isSome with
  | false =>
    have hn0 : (sc.recs b).length = 0 := by
      cases e : rdH b with
      | none => rw [recs_none e]; rfl
      | some h => rw [e] at h0; cases h0
    rw [ofN_none h0, if_neg (by omega)]
  | true =>
    by_cases hlo : i < (hdOf b).b
    · rw [ofN_low hlo, if_neg (by omega)]
    · obtain ⟨j, hj⟩ := Int.eq_ofNat_of_zero_le (show 0 ≤ i - (hdOf b).b by omega)
      have ec : c = (j : Int) := by omega
      have ei : i = (hdOf b).b + (j : Int) := by omega
      rw [ei, ofN_in h0, ec]
      by_cases hl : j < (sc.recs b).length
      · rw [if_pos (by omega), Int.toNat_natCast]
      · rw [if_neg (by omega), List.getElem?_eq_none (by rw [offI_length]; omega)]
        rfl
theorem wrap_same (x : Int) : IntKind.i64.wrap x = RowKit.wrap64 x := IntWalk.i64_left x

set_option maxHeartbeats 1000000 in
theorem implOffset (b : ByteArray) (i : Int) (w : World) (hm : b.size ≤ 1048576) (hi : i64 i) :
    Calls Tryz.prog 8 #[.string b, .int .i64 i] w fun e w' => e = .returned (.int .i64 (ofN b i)) ∧ Below w.heap.size w w' := by
  have CS := Lib.hid (fun w => implScan b w hm)
  have hn := Lib.hid (recs_le b)
  have hol := Lib.hid (offI_length b)
  obtain ⟨c, hc⟩ : ∃ c, RowKit.wrap64 (i - (hdOf b).b) = c := ⟨_, rfl⟩
  have HC := Lib.hid (ofN_by hi hm hc)
  have hc2 : IntKind.i64.wrap (i - (hdOf b).b) = c := by rw [wrap_same]; exact hc
  clear hi
  go_enter Tryz.func8, Tryz.ntmps8
  go_wp2_with (fail)
  refine (CS.out _).mono ?_
  rintro e w2 ⟨⟨v2, rfl, R, O, rfl, rR, rO⟩, b2⟩
  obtain ⟨aR, cR, rfl, _, _, _⟩ := own_form rR
  obtain ⟨aO, cO, rfl, _, _, _⟩ := own_form rO
  rw [offI_vals] at rO
  have sx := Box.new w2 #[.bool (rdH b).isSome, .int .i64 (hdOf b).v, .int .i64 (hdOf b).s, .int .i64 (hdOf b).b, .int .i64 (hdOf b).l, .slice aR (sc.recs b).length cR, .slice aO (sc.recs b).length cO, .int .i64 (endN b : Int), .bool (marked b)] 51
  have al := (Below.refl w2.heap.size w2).alloc (Nat.le_refl _) (.cells #[.bool (rdH b).isSome, .int .i64 (hdOf b).v, .int .i64 (hdOf b).s, .int .i64 (hdOf b).b, .int .i64 (hdOf b).l, .slice aR (sc.recs b).length cR, .slice aO (sc.recs b).length cO, .int .i64 (endN b : Int), .bool (marked b)] 51)
  have AO := Lib.hid ((ints.At.of_own rO).below al)
  have B2 := Lib.hid (b2.trans (al.mono b2.size))
  have x3 := sx.at 3 _ rfl
  have x6 := sx.at 6 _ rfl
  have hn2 : ((sc.recs b).length : Int) ≤ 1048576 := by have := hn.out; omega
  clear rR rO b2 al sx CS
  by_cases h0 : c < 0
  · have HE := Lib.hid (show ofN b i = -1 by rw [HC.out, if_neg (by omega)])
    clear HC
    go_wp2
    go_ret
    rw [HE.out]
    exact ⟨rfl, B2.out⟩
  · obtain ⟨j, rfl⟩ := Int.eq_ofNat_of_zero_le (show 0 ≤ c by omega)
    by_cases hlt : j < (sc.recs b).length
    · have hr := List.getElem?_eq_getElem (show j < (offI b).length by rw [hol.out]; exact hlt)
      obtain ⟨o, ho⟩ : ∃ o, (offI b)[j]'(by rw [hol.out]; exact hlt) = o := ⟨_, rfl⟩
      rw [ho] at hr
      obtain ⟨g, p, rfl, hg, hcl⟩ := AO.out.2.resolve_left (by omega)
      have d1 := hcl j o hr
      have HE := Lib.hid (show ofN b i = o by rw [HC.out, if_pos (by omega), Int.toNat_natCast, hr]; rfl)
      have g1 : ¬ ((sc.recs b).length : Int) ≤ (j : Int) := by omega
      have g2 : (j : Int) < ((sc.recs b).length : Int) := by omega
      clear hcl hr ho HC
      go_wp2
      go_ret
      rw [HE.out]
      exact ⟨rfl, B2.out⟩
    · have HE := Lib.hid (show ofN b i = -1 by rw [HC.out, if_neg (by omega)])
      have g1 : ((sc.recs b).length : Int) ≤ (j : Int) := by omega
      clear HC
      go_wp2
      go_ret
      rw [HE.out]
      exact ⟨rfl, B2.out⟩

end Go.Proofs.YtpibemlganeacaaGreatDoor.sk
