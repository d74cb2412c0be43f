/-
  Contract of impl.PlaceFor: its two closures, slices.ContainsFunc and sort.Search.
-/
import Derived.Test.YtpibemlganeacaaMathX
import Derived.Test.YtpibemlganeacaaSkA
import Derived.Laws.EntriesVeiled
import Derived.Test.YtpibemlganeacaaScR
namespace Go.Proofs.Ytpibemlganeacaa.sk
set_option maxRecDepth 20000
open Go.RowKit
open kit sum num burst hd fr recs sc pl sl

theorem AtP.drop {w : World} {g o n k : Nat} {xs : List Plc} (h : AtP w (some ⟨g, o, none⟩) n xs) (hk : k < n) : AtP w (some ⟨g, o + k * 2, none⟩) (n - k) (xs.drop k) := by
  have hl := h.len
  obtain ⟨b, off, h1, h2, h3⟩ := h.2.resolve_left (by omega)
  simp only [Option.some.injEq, Addr.mk.injEq] at h1
  obtain ⟨rfl, rfl, _⟩ := h1
  refine ⟨by rw [cellsP_len, List.length_drop, hl], .inr ⟨g, o + k * 2, rfl, h2, fun j x hj => ?_⟩⟩
  have e : cellsP xs = cellsP (xs.take k) ++ cellsP (xs.drop k) := by rw [← cellsP_app, List.take_append_drop]
  rw [show o + k * 2 + j = o + (k * 2 + j) by omega]
  apply h3
  rw [e, List.getElem?_append_right (by rw [cellsP_len, List.length_take]; omega), cellsP_len, List.length_take, show k * 2 + j - min k xs.length * 2 = j by omega]
  exact hj

/-- where the first one stands whose count is at most i -/
def ixP (i : Int) : List Plc → Option Nat
  | [] => none
  | c :: r => if c.1 ≤ i then some 0 else (ixP i r).map (· + 1)
def ixV : Option Nat → Int
  | none => -1
  | some k => (k : Int)
theorem ixP_yes {i : Int} {xs : List Plc} {k : Nat} {c : Plc} (h : xs[k]? = some c) (hc : c.1 ≤ i) : ixP i (xs.drop k) = some 0 := by
  rw [drop_one h]
  exact if_pos hc
theorem ixP_no {i : Int} {xs : List Plc} {k : Nat} {c : Plc} (h : xs[k]? = some c) (hc : ¬ c.1 ≤ i) : ixP i (xs.drop k) = (ixP i (xs.drop (k + 1))).map (· + 1) := by
  rw [drop_one h]
  exact if_neg hc
theorem ixP_none {i : Int} : ∀ {xs : List Plc}, (ixP i xs).isNone = !(xs.any fun c => decide (c.1 ≤ i))
  | [] => rfl
  | c :: r => by
    rw [List.any_cons, Bool.not_or, ← ixP_none (xs := r)]
    show (if c.1 ≤ i then some 0 else (ixP i r).map (· + 1)).isNone = _
    by_cases hc : c.1 ≤ i
    · rw [if_pos hc, decide_eq_true hc]; rfl
    · rw [if_neg hc, decide_eq_false hc, Option.isNone_map, Bool.not_false, Bool.true_and]
theorem noneN_ix (xs : List Plc) (i : Int) (k : Nat) : noneN xs i k = (ixP i (xs.drop k)).isNone := by rw [ixP_none]; rfl

set_option maxHeartbeats 400000 in
theorem atMostC (c o i : Int) (gI : Nat) (w : World) (hc : w.cell? ⟨gI, 0, none⟩ = some (.int .i64 i)) :
    Calls Try.prog 14 #[.agg #[.int .i64 c, .int .i64 o], .pointer (some ⟨gI, 0, none⟩)] w fun e w' => e = .returned (.bool (decide (c ≤ i))) ∧ Below w.heap.size w w' := by
  have hn : Below w.heap.size w (w.alloc (.cells #[.int .i64 c, .int .i64 o] 25)) := (Below.refl _ _).alloc (Nat.le_refl _) _
  have hc2 := (hn.cell (p := ⟨gI, 0, none⟩) (World.block_lt_of_cell? w _ hc)).trans hc
  have HN := Lib.hid hn
  clear hn hc
  go_enter Try.func14, Try.ntmps14
  go_wp2
  go_ret
  exact ⟨rfl, HN.out⟩
set_option maxHeartbeats 800000 in
theorem indexP (a : Option Addr) (c n gI : Nat) (xs : List Plc) (i : Int) (w : World) (hm : n ≤ 1048576) (ha : AtP w a n xs) (hc : w.cell? ⟨gI, 0, none⟩ = some (.int .i64 i)) :
    Calls Try.prog 20 #[.slice a n c, .func (.func 14) #[] #[.pointer (some ⟨gI, 0, none⟩)]] w fun e w' => e = .returned (.int .i64 (ixV (ixP i xs))) ∧ Below w.heap.size w w' := by
  have HA := Lib.hid ha
  have HC := Lib.hid hc
  clear ha hc
  go_enter Try.func20, Try.ntmps20
  go_wp2
  go_loopw [5, 8] (fun _ q wr => ∃ k : Nat, k ≤ n ∧ q = .int .i64 k ∧ Hid (ixP i xs = (ixP i (xs.drop k)).map (· + k)) ∧ Below w.heap.size w wr) (fun _ q _ => n - (intOf q).toNat)
  case atStart => exact ⟨0, Nat.zero_le _, rfl, Lib.hid (by simp), Below.refl _ _⟩
  case round =>
    obtain ⟨k, hk, rfl, hf, hbl⟩ := hrel
    by_cases hlt : k < n
    · obtain ⟨s, o, g, p, hx, rfl, hg, c1, c2⟩ := (HA.out.below hbl).get hlt
      have i0 : (0 : Int) ≤ (k : Int) := by omega
      have i1 : (k : Int) < (n : Int) := by omega
      have CS := Lib.hid (atMostC s o i gI wr ((hbl.cell (p := ⟨gI, 0, none⟩) (World.block_lt_of_cell? w _ HC.out)).trans HC.out))
      have HBL := Lib.hid hbl
      clear hbl
      by_cases e : s ≤ i
      · have HE := Lib.hid (show ixV (ixP i xs) = (k : Int) by rw [hf.out, ixP_yes hx e]; simp [ixV])
        rw [decide_eq_true e] at CS
        clear hx e hf
        go_wp2_with (go_at_call 14; refine CS.out.mono ?_; rintro e w1 ⟨rfl, hb1⟩)
        go_ret
        exact ⟨by rw [HE.out]; rfl, HBL.out.trans (hb1.mono HBL.out.size)⟩
      · have HE := Lib.hid (show ixP i xs = (ixP i (xs.drop (k + 1))).map (· + (k + 1)) by
          rw [hf.out, ixP_no hx e, Option.map_map]
          congr 1
          funext y
          simp
          omega)
        rw [decide_eq_false e] at CS
        clear hx e hf
        go_wp2_with (go_at_call 14; refine CS.out.mono ?_; rintro e w1 ⟨rfl, hb1⟩)
        go_roundw
        case rel => exact ⟨k + 1, by omega, by go_num, HE, HBL.out.trans (hb1.mono HBL.out.size)⟩
        case measure => simp [intOf]; omega
    · obtain rfl : k = n := by omega
      have HE := Lib.hid (show ixV (ixP i xs) = -1 by rw [hf.out, List.drop_of_length_le (by rw [HA.out.len]; omega)]; rfl)
      go_wp2
      go_ret
      exact ⟨by rw [HE.out]; rfl, hbl⟩
set_option maxHeartbeats 800000 in
theorem containsP (a : Option Addr) (c n gI : Nat) (xs : List Plc) (i : Int) (w : World) (hm : n ≤ 1048576) (ha : AtP w a n xs) (hc : w.cell? ⟨gI, 0, none⟩ = some (.int .i64 i)) :
    Calls Try.prog 16 #[.slice a n c, .func (.func 14) #[] #[.pointer (some ⟨gI, 0, none⟩)]] w fun e w' => e = .returned (.bool (ixP i xs).isSome) ∧ Below w.heap.size w w' := by
  have CI := Lib.hid (indexP a c n gI xs i w hm ha hc)
  clear ha hc
  obtain ⟨r, hr⟩ : ∃ r, ixP i xs = r := ⟨_, rfl⟩
  rw [hr] at CI ⊢
  clear hr
  cases r with
  | none =>
    rw [show ixV none = -1 from rfl] at CI
    go_enter Try.func16, Try.ntmps16
    go_wp2_with (fail)
    refine CI.out.mono ?_
    rintro e w1 ⟨rfl, hb1⟩
    go_wp2
    go_ret
    exact ⟨rfl, hb1⟩
  | some r =>
    rw [show ixV (some r) = (r : Int) from rfl] at CI
    have r0 : (0 : Int) ≤ (r : Int) := by omega
    go_enter Try.func16, Try.ntmps16
    go_wp2_with (fail)
    refine CI.out.mono ?_
    rintro e w1 ⟨rfl, hb1⟩
    go_wp2
    go_ret
    exact ⟨rfl, hb1⟩

/-- the boxes that the second closure holds: the list, the first closure, and i behind it -/
structure Caps (w : World) (gL gA gI : Nat) (a : Option Addr) (n c : Nat) (xs : List Plc) (i : Int) : Prop where
  list : w.cell? ⟨gL, 0, none⟩ = some (.slice a n c)
  most : w.cell? ⟨gA, 0, none⟩ = some (.func (.func 14) #[] #[.pointer (some ⟨gI, 0, none⟩)])
  i : w.cell? ⟨gI, 0, none⟩ = some (.int .i64 i)
  at_ : AtP w a n xs
theorem Caps.below {w w' : World} {gL gA gI : Nat} {a : Option Addr} {n c : Nat} {xs : List Plc} {i : Int} (h : Caps w gL gA gI a n c xs i) (hb : Below w.heap.size w w') : Caps w' gL gA gI a n c xs i :=
  ⟨(hb.cell (p := ⟨gL, 0, none⟩) (World.block_lt_of_cell? w _ h.list)).trans h.list, (hb.cell (p := ⟨gA, 0, none⟩) (World.block_lt_of_cell? w _ h.most)).trans h.most, (hb.cell (p := ⟨gI, 0, none⟩) (World.block_lt_of_cell? w _ h.i)).trans h.i, h.at_.below hb⟩

set_option maxHeartbeats 800000 in
theorem noneFromC (k gL gA gI c n : Nat) (a : Option Addr) (xs : List Plc) (i : Int) (w : World) (hm : n ≤ 1048576) (hnc : n ≤ c) (hk : k < n) (hc : Caps w gL gA gI a n c xs i) :
    Calls Try.prog 15 #[.int .i64 (k : Int), .pointer (some ⟨gL, 0, none⟩), .pointer (some ⟨gA, 0, none⟩)] w fun e w' => e = .returned (.bool (noneN xs i k)) ∧ Below w.heap.size w w' := by
  obtain ⟨s, o, g, p, hx, rfl, hg, _, _⟩ := hc.at_.get hk
  have CO := Lib.hid (fun x : Later w => containsP (some ⟨g, p + k * 2, none⟩) (c - k) (n - k) gI (xs.drop k) i x.val (by omega) ((AtP.drop hc.at_ hk).below x.2) (Later.cell hc.i (World.block_lt_of_cell? w _ hc.i) x))
  have h1 := Later.cell hc.list (World.block_lt_of_cell? w _ hc.list)
  have h2 := Later.cell hc.most (World.block_lt_of_cell? w _ hc.most)
  rw [noneN_ix]
  obtain ⟨r, hr⟩ : ∃ r, ixP i (xs.drop k) = r := ⟨_, rfl⟩
  rw [hr] at CO ⊢
  clear hr hx hc
  have i0 : (0 : Int) ≤ (k : Int) := by omega
  have i1 : (k : Int) ≤ (n : Int) := by omega
  have i2 : (n : Int) ≤ (c : Int) := by omega
  go_enter Try.func15, Try.ntmps15
  go_wp2
  refine wp_region_later (by kernel_rfl) (by kernel_rfl) ?_
  repeat (first | go_big_quiet_skip | (go_big_quiet_want; go_big_quiet_op; first | go_big_quiet_on | (apply Exists.intro; refine ⟨fun x => ?_, ?_⟩; (go_at_call 16; exact Calls.later (CO.out x)); go_big_quiet_on)))
  refine wpQuiet_nil ?_
  rintro w2 ⟨x2, hx2⟩
  have hb2 : Below w.heap.size w w2 := hx2 ▸ x2.2
  clear hx2 x2
  go_wp2
  go_ret
  cases r with
  | none => exact ⟨rfl, hb2⟩
  | some r => exact ⟨rfl, hb2⟩

set_option maxHeartbeats 1000000 in
/-- sort.Search over the second closure: the place from which on there is none, and ahead of which there is one -/
theorem searchP (gL gA gI c n : Nat) (a : Option Addr) (xs : List Plc) (i : Int) (w : World) (hm : n ≤ 1048576) (hnc : n ≤ c) (hc : Caps w gL gA gI a n c xs i) :
    Calls Try.prog 17 #[.int .i64 (n : Int), .func (.func 15) #[] #[.pointer (some ⟨gL, 0, none⟩), .pointer (some ⟨gA, 0, none⟩)]] w fun e w' => (∃ k : Nat, e = .returned (.int .i64 (k : Int)) ∧ k ≤ n ∧ (k = 0 ∨ noneN xs i (k - 1) = false) ∧ (k = n ∨ noneN xs i k = true)) ∧ Below w.heap.size w w' := by
  have HC := Lib.hid hc
  clear hc
  go_enter Try.func17, Try.ntmps17
  go_wp2
  go_loopw [5, 6] (fun s5 s6 wr => ∃ lo hi : Nat, s5 = .int .i64 (lo : Int) ∧ s6 = .int .i64 (hi : Int) ∧ lo ≤ hi ∧ hi ≤ n ∧ Hid ((lo = 0 ∨ noneN xs i (lo - 1) = false) ∧ (hi = n ∨ noneN xs i hi = true)) ∧ Below w.heap.size w wr) (fun s5 s6 _ => (intOf s6).toNat - (intOf s5).toNat)
  case atStart => exact ⟨0, n, rfl, rfl, Nat.zero_le _, Nat.le_refl _, Lib.hid ⟨.inl rfl, .inl rfl⟩, Below.refl _ _⟩
  case round =>
    obtain ⟨lo, hi, rfl, rfl, hlh, hin, I, hbl⟩ := hrel
    by_cases hlt : lo < hi
    · have hc := noneFromC ((lo + hi) / 2) gL gA gI c n a xs i wr hm hnc (by omega) (HC.out.below hbl)
      rw [show (((lo + hi) / 2 : Nat) : Int) = ((lo : Int) + (hi : Int)) / 2 by omega] at hc
      have HBL := Lib.hid hbl
      clear hbl
      cases hp : noneN xs i ((lo + hi) / 2) with
      | false =>
        rw [hp] at hc
        have HP := Lib.hid hp
        have CN := Lib.hid hc
        clear hp hc
        go_wp2_with (go_at_call 15; refine CN.out.mono ?_; rintro e w1 ⟨rfl, hb1⟩)
        go_roundw
        case rel => exact ⟨(lo + hi) / 2 + 1, hi, by rw [show ((lo : Int) + (hi : Int)) / 2 + 1 = (((lo + hi) / 2 + 1 : Nat) : Int) by omega], rfl, by omega, hin, Lib.hid ⟨.inr (by rw [Nat.add_sub_cancel]; exact HP.out), I.out.2⟩, HBL.out.trans (hb1.mono HBL.out.size)⟩
        case measure => simp [intOf]; omega
      | true =>
        rw [hp] at hc
        have HP := Lib.hid hp
        have CN := Lib.hid hc
        clear hp hc
        go_wp2_with (go_at_call 15; refine CN.out.mono ?_; rintro e w1 ⟨rfl, hb1⟩)
        go_roundw
        case rel => exact ⟨lo, (lo + hi) / 2, rfl, by rw [show ((lo : Int) + (hi : Int)) / 2 = (((lo + hi) / 2 : Nat) : Int) by omega], by omega, by omega, Lib.hid ⟨I.out.1, .inr HP.out⟩, HBL.out.trans (hb1.mono HBL.out.size)⟩
        case measure => simp [intOf]; omega
    · obtain rfl : hi = lo := by omega
      go_wp2
      go_ret
      exact ⟨⟨hi, rfl, hin, I.out⟩, hbl⟩

theorem OwnP.room {B n c : Nat} {w : World} {a : Option Addr} {xs : List Plc} (h : OwnP B w (.slice a n c) xs) : n ≤ c ∧ c ≤ 9223372036854775807 := by
  have h' : w.ownsRow B 25 2 (.slice a n c) xs.length (cellsP xs) := h
  rcases h'.2 with ⟨hv, h0⟩ | ⟨g, cap, cur, hv, hB, hg, hn, hcm, _⟩
  · injection hv with _ e1 e2
    subst e1 e2
    exact ⟨Nat.le_refl _, by omega⟩
  · injection hv with _ e1 e2
    subst e1 e2
    exact ⟨hn, hcm⟩

set_option maxHeartbeats 1000000 in
theorem implPlaceFor (a : Option Addr) (c n : Nat) (xs : List Plc) (i : Int) (w : World) (hm : n ≤ 1048576) (ha : AtP w a n xs) (hr : n ≤ c ∧ c ≤ 9223372036854775807) :
    Calls Try.prog 8 #[.slice a n c, .int .i64 i] w fun e w' => e = .returned (pfR (plcFor xs i)) ∧ Below w.heap.size w w' := by
  have hl := Lib.hid ha.len
  have HA := Lib.hid ha
  clear ha
  obtain ⟨W, hW⟩ : ∃ W, W = (((w.alloc (.cells #[.slice a n c] 28)).alloc (.cells #[.int .i64 i] 3)).alloc (.cells #[.int .i64 0, .int .i64 0] 25)).alloc (.cells #[.func (.func 14) #[] #[.pointer (some ⟨w.heap.size + 1, 0, none⟩)]] 37) := ⟨_, rfl⟩
  obtain ⟨bW, cW, xW, sW⟩ : Below w.heap.size w W ∧ Caps W w.heap.size (w.heap.size + 1 + 1 + 1) (w.heap.size + 1) a n c xs i ∧ Box W (w.heap.size + 1 + 1) [.int .i64 0, .int .i64 0] ∧ W.heap.size = w.heap.size + 1 + 1 + 1 + 1 := by
    rw [hW]
    have x0 := Box.new w #[.slice a n c] 28
    have b0 := (Below.refl w.heap.size w).alloc (Nat.le_refl _) (.cells #[.slice a n c] 28)
    obtain ⟨W0, h0⟩ : ∃ W0, W0 = w.alloc (.cells #[.slice a n c] 28) := ⟨_, rfl⟩
    have s0 : W0.heap.size = w.heap.size + 1 := by rw [h0, World.size_alloc]
    rw [← h0] at x0 b0 ⊢
    have x1 := Box.new W0 #[.int .i64 i] 3
    have b1 := (Below.refl W0.heap.size W0).alloc (Nat.le_refl _) (.cells #[.int .i64 i] 3)
    obtain ⟨W1, h1⟩ : ∃ W1, W1 = W0.alloc (.cells #[.int .i64 i] 3) := ⟨_, rfl⟩
    have s1 : W1.heap.size = w.heap.size + 1 + 1 := by rw [h1, World.size_alloc, s0]
    rw [← h1] at x1 b1 ⊢
    rw [s0] at x1
    have x2 := Box.new W1 #[.int .i64 0, .int .i64 0] 25
    have b2 := (Below.refl W1.heap.size W1).alloc (Nat.le_refl _) (.cells #[.int .i64 0, .int .i64 0] 25)
    obtain ⟨W2, h2⟩ : ∃ W2, W2 = W1.alloc (.cells #[.int .i64 0, .int .i64 0] 25) := ⟨_, rfl⟩
    have s2 : W2.heap.size = w.heap.size + 1 + 1 + 1 := by rw [h2, World.size_alloc, s1]
    rw [← h2] at x2 b2 ⊢
    rw [s1] at x2
    have x3 := Box.new W2 #[.func (.func 14) #[] #[.pointer (some ⟨w.heap.size + 1, 0, none⟩)]] 37
    have b3 := (Below.refl W2.heap.size W2).alloc (Nat.le_refl _) (.cells #[.func (.func 14) #[] #[.pointer (some ⟨w.heap.size + 1, 0, none⟩)]] 37)
    rw [s2] at x3
    have b13 := b1.trans ((b2.mono b1.size).trans (b3.mono (Nat.le_trans b1.size b2.size)))
    have b23 := b2.trans (b3.mono b2.size)
    have b03 := b0.trans (b13.mono b0.size)
    refine ⟨b03, ⟨(x0.below b13).at 0 _ rfl, x3.at 0 _ rfl, (x1.below b23).at 0 _ rfl, HA.out.below b03⟩, x2.below b3, ?_⟩
    rw [World.size_alloc, s2]
  have HW := Lib.hid hW
  have CS := Lib.hid (searchP w.heap.size (w.heap.size + 1 + 1 + 1) (w.heap.size + 1) c n a xs i W hm hr.1 cW)
  have BW := Lib.hid bW
  have CW := Lib.hid cW
  have XW := Lib.hid xW
  clear hW bW cW xW
  go_enter Try.func8, Try.ntmps8
  go_wp2_with (fail)
  rw [← HW.out]
  clear HW
  refine CS.out.mono ?_
  rintro e w2 ⟨⟨k, rfl, hk, h0, h1⟩, b2⟩
  have K0 := Lib.hid h0
  have K1 := Lib.hid h1
  have C2 := CW.out.below b2
  have X2 := XW.out.below b2
  have B2 := Lib.hid (BW.out.trans (b2.mono BW.out.size))
  have l2 := C2.list
  have p0 := X2.at 0 _ rfl
  have p1 := X2.at 1 _ rfl
  have f0 := X2.2 0
  have f1 := X2.2 1
  have A2 := Lib.hid C2.at_
  have B3 := Lib.hid (fun u v => (B2.out.setCell (p := ⟨w.heap.size + 1 + 1, 0, none⟩) (show w.heap.size ≤ w.heap.size + 1 + 1 by omega) u).setCell (p := ⟨w.heap.size + 1 + 1, 1, none⟩) (show w.heap.size ≤ w.heap.size + 1 + 1 by omega) v)
  clear h0 h1 C2 X2 b2 CS sW
  cases k with
  | zero =>
    have HE := Lib.hid (show plcFor xs i = none from (by
      rcases K1.out with h | h
      · have : xs = [] := List.length_eq_zero_iff.1 (by rw [hl.out]; exact h.symm)
        rw [this]; rfl
      · exact halves_none h))
    go_wp2
    refine bodyPost_ret (v := .tuple #[.agg #[.int .i64 0, .int .i64 0], .bool false]) (by simp [results, Try.results8, go_sem, p0, p1]) rfl ⟨?_, B3.out _ _⟩
    rw [HE.out]
    rfl
  | succ m =>
    obtain ⟨s, o, g, p, hx, rfl, hg, c0, c1⟩ := A2.out.get (show m < n by omega)
    have HE := Lib.hid (show plcFor xs i = some (s, o) from (by
      rcases K0.out with h | h
      · cases h
      · refine halves_some hx h ?_
        rcases K1.out with h2 | h2
        · rw [h2, ← hl.out]; exact noneN_end xs i
        · exact h2))
    have i0 : (0 : Int) ≤ (m : Int) := by omega
    have i1 : (m : Int) < (n : Int) := by omega
    have ek : ((m + 1 : Nat) : Int) - 1 = (m : Int) := by omega
    have en : ((m + 1 : Nat) : Int) = (m : Int) + 1 := by omega
    clear hx K0 K1
    go_wp2
    refine bodyPost_ret (v := .tuple #[.agg #[.int .i64 s, .int .i64 o], .bool true]) (by simp [results, Try.results8, go_sem, p0, p1]) rfl ⟨?_, B3.out _ _⟩
    rw [HE.out]
    rfl

end Go.Proofs.Ytpibemlganeacaa.sk

namespace Go.Proofs.Ytpibemlganeacaa.sk
set_option maxRecDepth 20000
open Go.RowKit
open kit sum num burst hd fr recs sc pl sl

/-- by the number that is left when the base is taken away, which may go round -/
theorem ofN_by {b : ByteArray} {i c : Int} (hi : i64 i) (hm : b.size ≤ 1048576) (hc : RowKit.wrap64 (i - (hdOf b).b) = c) : ofN b i = if 0 ≤ c ∧ c < ((sc.recs b).length : Int) then ((offI b)[c.toNat]?).getD (-1) else -1 := by
  have hb := hdOf_base b
  have hn := recs_le b
  unfold i64 at hi
  unfold RowKit.wrap64 at hc
  cases h0 : (rdH b).isSome with
  | false =>
    have hn0 : (sc.recs b).length = 0 := by
      cases e : rdH b with
      | none => rw [recs_none e]; rfl
      | some h => rw [e] at h0; cases h0
    rw [ofN_none h0, if_neg (by omega)]
  | true =>
    by_cases hlo : i < (hdOf b).b
    · rw [ofN_low hlo, if_neg (by omega)]
    · obtain ⟨j, hj⟩ := Int.eq_ofNat_of_zero_le (show 0 ≤ i - (hdOf b).b by omega)
      have ec : c = (j : Int) := by omega
      have ei : i = (hdOf b).b + (j : Int) := by omega
      rw [ei, ofN_in h0, ec]
      by_cases hl : j < (sc.recs b).length
      · rw [if_pos (by omega), Int.toNat_natCast]
      · rw [if_neg (by omega), List.getElem?_eq_none (by rw [offI_length]; omega)]
        rfl
theorem wrap_same (x : Int) : IntKind.i64.wrap x = RowKit.wrap64 x := IntWalk.i64_left x

set_option maxHeartbeats 1000000 in
theorem implOffset (b : ByteArray) (i : Int) (w : World) (hm : b.size ≤ 1048576) (hi : i64 i) :
    Calls Try.prog 12 #[.string b, .int .i64 i] w fun e w' => e = .returned (.int .i64 (ofN b i)) ∧ Below w.heap.size w w' := by
  have CS := Lib.hid (fun w => implScan b w hm)
  have hn := Lib.hid (recs_le b)
  have hol := Lib.hid (offI_length b)
  obtain ⟨c, hc⟩ : ∃ c, RowKit.wrap64 (i - (hdOf b).b) = c := ⟨_, rfl⟩
  have HC := Lib.hid (ofN_by hi hm hc)
  have hc2 : IntKind.i64.wrap (i - (hdOf b).b) = c := by rw [wrap_same]; exact hc
  clear hi
  go_enter Try.func12, Try.ntmps12
  go_wp2_with (fail)
  refine (CS.out _).mono ?_
  rintro e w2 ⟨⟨v2, rfl, R, O, rfl, rR, rO⟩, b2⟩
  obtain ⟨aR, cR, rfl, _, _, _⟩ := own_form rR
  obtain ⟨aO, cO, rfl, _, _, _⟩ := own_form rO
  rw [offI_vals] at rO
  have sx := Box.new w2 #[.bool (rdH b).isSome, .int .i64 (hdOf b).v, .int .i64 (hdOf b).s, .int .i64 (hdOf b).b, .int .i64 (hdOf b).l, .slice aR (sc.recs b).length cR, .slice aO (sc.recs b).length cO, .int .i64 (endN b : Int), .bool (marked b)] 46
  have al := (Below.refl w2.heap.size w2).alloc (Nat.le_refl _) (.cells #[.bool (rdH b).isSome, .int .i64 (hdOf b).v, .int .i64 (hdOf b).s, .int .i64 (hdOf b).b, .int .i64 (hdOf b).l, .slice aR (sc.recs b).length cR, .slice aO (sc.recs b).length cO, .int .i64 (endN b : Int), .bool (marked b)] 46)
  have AO := Lib.hid ((ints.At.of_own rO).below al)
  have B2 := Lib.hid (b2.trans (al.mono b2.size))
  have x3 := sx.at 3 _ rfl
  have x6 := sx.at 6 _ rfl
  have hn2 : ((sc.recs b).length : Int) ≤ 1048576 := by have := hn.out; omega
  clear rR rO b2 al sx CS
  by_cases h0 : c < 0
  · have HE := Lib.hid (show ofN b i = -1 by rw [HC.out, if_neg (by omega)])
    clear HC
    go_wp2
    go_ret
    rw [HE.out]
    exact ⟨rfl, B2.out⟩
  · obtain ⟨j, rfl⟩ := Int.eq_ofNat_of_zero_le (show 0 ≤ c by omega)
    by_cases hlt : j < (sc.recs b).length
    · have hr := List.getElem?_eq_getElem (show j < (offI b).length by rw [hol.out]; exact hlt)
      obtain ⟨o, ho⟩ : ∃ o, (offI b)[j]'(by rw [hol.out]; exact hlt) = o := ⟨_, rfl⟩
      rw [ho] at hr
      obtain ⟨g, p, rfl, hg, hcl⟩ := AO.out.2.resolve_left (by omega)
      have d1 := hcl j o hr
      have HE := Lib.hid (show ofN b i = o by rw [HC.out, if_pos (by omega), Int.toNat_natCast, hr]; rfl)
      have g1 : ¬ ((sc.recs b).length : Int) ≤ (j : Int) := by omega
      have g2 : (j : Int) < ((sc.recs b).length : Int) := by omega
      clear hcl hr ho HC
      go_wp2
      go_ret
      rw [HE.out]
      exact ⟨rfl, B2.out⟩
    · have HE := Lib.hid (show ofN b i = -1 by rw [HC.out, if_neg (by omega)])
      have g1 : ((sc.recs b).length : Int) ≤ (j : Int) := by omega
      clear HC
      go_wp2
      go_ret
      rw [HE.out]
      exact ⟨rfl, B2.out⟩

end Go.Proofs.Ytpibemlganeacaa.sk
