/-
  The landed program's slices.Equal of nodes, of texts and of entries.
-/
import Derived.Test.YtkibddcjogfklaaGreatDoorKinds
import Derived.Test.YtkibddcjogfklaaGreatDoorDpX
namespace Go.Proofs.YtkibddcjogfklaaGreatDoor.fall
open Go.RowKit
open kit strs recs disk deed kd

theorem strAt {w : World} {b : Option Addr} {m k : Nat} {ss : List ByteArray} (h : strs.At w b m ss) (hk : k < m) : ∃ s g o, ss[k]? = some s ∧ b = some ⟨g, o, none⟩ ∧ g < w.heap.size ∧ w.cell? ⟨g, o + k, none⟩ = some (.string s) := by
  have hx : ss[k]? = some (ss[k]'(by rw [h.1]; exact hk)) := List.getElem?_eq_getElem _
  obtain ⟨g, o, h1, h2, h3⟩ := h.2.resolve_left (by omega)
  exact ⟨_, g, o, hx, h1, h2, h3 k _ hx⟩

set_option maxHeartbeats 1000000 in
theorem implEqualN (a b : Option Addr) (c e n m : Nat) (xs ys : List Nod) (w : World) (hn : n ≤ maxLen) (hm : m ≤ maxLen) (ha : AtN w a n xs) (hb : AtN w b m ys) :
    Calls Tryz.prog 47 #[.slice a n c, .slice b m e] w fun e w' => e = .returned (.bool (decide (xs = ys))) ∧ Below w.heap.size w w' := by
  unfold maxLen at hn hm
  have HA := Lib.hid ha
  have HB := Lib.hid hb
  have la : xs.length = n := ha.len
  have lb : ys.length = m := hb.len
  by_cases hl : n = m
  · subst hl
    have LA := Lib.hid la
    have LB := Lib.hid lb
    clear ha hb la lb
    go_enter Tryz.func47, Tryz.ntmps47
    go_wp2
    go_loopw [13] (fun i wr => ∃ k : Nat, k ≤ n ∧ i = .int .i64 k ∧ Hid (xs.take k = ys.take k) ∧ Below w.heap.size w wr) (fun i _ => n - (intOf i).toNat)
    case atStart => exact ⟨0, Nat.zero_le _, rfl, Lib.hid (by simp), Below.refl _ _⟩
    case round =>
      obtain ⟨k, hk, rfl, hf, hb⟩ := hrel
      by_cases hlt : k < n
      · obtain ⟨i, s, j, g, o, hx, rfl, hg, c1, c2, c3⟩ := (HA.out.below hb).get hlt
        obtain ⟨i2, s2, j2, h, p, hy, rfl, hh, c4, c5, c6⟩ := (HB.out.below hb).get hlt
        have i0 : (0 : Int) ≤ (k : Int) := by omega
        have i1 : (k : Int) < (n : Int) := by omega
        by_cases e : ((i, s, j) : Nod) = (i2, s2, j2)
        · have HF := Lib.hid (show xs.take (k + 1) = ys.take (k + 1) by rw [List.take_add_one, List.take_add_one, hf.out, hx, hy, e])
          obtain ⟨rfl, rfl, rfl⟩ : i = i2 ∧ s = s2 ∧ j = j2 := by simpa using e
          have hs := bytes_eq (rfl : s = s)
          have hi : (i == i) = true := by simp
          have hj : (j == j) = true := by simp
          clear hx hy e
          go_wp2
          go_quiet (fail)
          go_wp2
          go_roundw
          case rel => exact ⟨k + 1, by omega, by go_num, HF, below_drewN hb _⟩
          case measure => simp [intOf]; omega
        · have HF := Lib.hid (show decide (xs = ys) = false by simpa using take_ne hx hy e)
          clear hx hy
          by_cases hi : i = i2
          · have hi3 : (i == i2) = true := by simpa using hi
            by_cases hs : s = s2
            · have hjj : ¬ j = j2 := fun h2 => e (by rw [hi, hs, h2])
              have hs3 := bytes_eq hs
              have hj3 := int_ne hjj
              clear hi hs hjj e
              go_wp2
              go_quiet (fail)
              go_wp2
              go_ret
              exact ⟨by rw [HF.out]; rfl, below_drewN hb _⟩
            · have hs3 := bytes_ne hs
              clear hi hs e
              go_wp2
              go_quiet (fail)
              go_wp2
              go_ret
              exact ⟨by rw [HF.out]; rfl, below_drewN hb _⟩
          · have hi3 := int_ne hi
            clear hi e
            go_wp2
            go_quiet (fail)
            go_wp2
            go_ret
            exact ⟨by rw [HF.out]; rfl, below_drewN hb _⟩
      · obtain rfl : k = n := by omega
        have HF := Lib.hid (show decide (xs = ys) = true by
          have h := hf.out
          rw [List.take_of_length_le (by rw [LA.out]; exact Nat.le_refl _), List.take_of_length_le (by rw [LB.out]; exact Nat.le_refl _)] at h
          simpa using h)
        go_wp2
        go_ret
        exact ⟨by rw [HF.out]; rfl, hb⟩
  · have HF := Lib.hid (show decide (xs = ys) = false by
      simp only [decide_eq_false_iff_not]
      intro h
      exact hl (by rw [← la, ← lb, h]))
    have hne : ¬ (n : Int) = (m : Int) := by omega
    have hd : decide (n = m) = false := by simpa using hl
    clear ha hb hl la lb
    go_enter Tryz.func47, Tryz.ntmps47
    go_wp2
    go_ret
    exact ⟨by rw [HF.out]; rfl, Below.refl _ _⟩

set_option maxHeartbeats 1000000 in
theorem implEqualS (a b : Option Addr) (c e n m : Nat) (xs ys : List ByteArray) (w : World) (hn : n ≤ maxLen) (hm : m ≤ maxLen) (ha : strs.At w a n xs) (hb : strs.At w b m ys) :
    Calls Tryz.prog 49 #[.slice a n c, .slice b m e] w fun e w' => e = .returned (.bool (decide (xs = ys))) ∧ Below w.heap.size w w' := by
  unfold maxLen at hn hm
  have HA := Lib.hid ha
  have HB := Lib.hid hb
  have la : xs.length = n := ha.1
  have lb : ys.length = m := hb.1
  by_cases hl : n = m
  · subst hl
    have LA := Lib.hid la
    have LB := Lib.hid lb
    clear ha hb la lb
    go_enter Tryz.func49, Tryz.ntmps49
    go_wp2
    go_loopw [13] (fun i wr => ∃ k : Nat, k ≤ n ∧ i = .int .i64 k ∧ Hid (xs.take k = ys.take k) ∧ Below w.heap.size w wr) (fun i _ => n - (intOf i).toNat)
    case atStart => exact ⟨0, Nat.zero_le _, rfl, Lib.hid (by simp), Below.refl _ _⟩
    case round =>
      obtain ⟨k, hk, rfl, hf, hb⟩ := hrel
      by_cases hlt : k < n
      · obtain ⟨s, g, o, hx, rfl, hg, c1⟩ := strAt (HA.out.below hb) hlt
        obtain ⟨s2, h, p, hy, rfl, hh, c2⟩ := strAt (HB.out.below hb) hlt
        have i0 : (0 : Int) ≤ (k : Int) := by omega
        have i1 : (k : Int) < (n : Int) := by omega
        by_cases e : (s : ByteArray) = s2
        · have HF := Lib.hid (show xs.take (k + 1) = ys.take (k + 1) by rw [List.take_add_one, List.take_add_one, hf.out, hx, hy, e])
          obtain rfl : s = s2 := id e
          have hs := bytes_eq (rfl : s = s)
          clear hx hy e
          go_wp2
          go_quiet (fail)
          go_wp2
          go_roundw
          case rel => exact ⟨k + 1, by omega, by go_num, HF, below_drewN hb _⟩
          case measure => simp [intOf]; omega
        · have HF := Lib.hid (show decide (xs = ys) = false by simpa using take_ne hx hy e)
          clear hx hy
          have hs3 := bytes_ne e
          clear e
          go_wp2
          go_quiet (fail)
          go_wp2
          go_ret
          exact ⟨by rw [HF.out]; rfl, below_drewN hb _⟩
      · obtain rfl : k = n := by omega
        have HF := Lib.hid (show decide (xs = ys) = true by
          have h := hf.out
          rw [List.take_of_length_le (by rw [LA.out]; exact Nat.le_refl _), List.take_of_length_le (by rw [LB.out]; exact Nat.le_refl _)] at h
          simpa using h)
        go_wp2
        go_ret
        exact ⟨by rw [HF.out]; rfl, hb⟩
  · have HF := Lib.hid (show decide (xs = ys) = false by
      simp only [decide_eq_false_iff_not]
      intro h
      exact hl (by rw [← la, ← lb, h]))
    have hne : ¬ (n : Int) = (m : Int) := by omega
    have hd : decide (n = m) = false := by simpa using hl
    clear ha hb hl la lb
    go_enter Tryz.func49, Tryz.ntmps49
    go_wp2
    go_ret
    exact ⟨by rw [HF.out]; rfl, Below.refl _ _⟩

set_option maxHeartbeats 1000000 in
theorem implEqualE (a b : Option Addr) (c e n m : Nat) (xs ys : List Ent) (w : World) (hn : n ≤ maxLen) (hm : m ≤ maxLen) (ha : AtE w a n xs) (hb : AtE w b m ys) :
    Calls Tryz.prog 48 #[.slice a n c, .slice b m e] w fun e w' => e = .returned (.bool (decide (xs = ys))) ∧ Below w.heap.size w w' := by
  unfold maxLen at hn hm
  have HA := Lib.hid ha
  have HB := Lib.hid hb
  have la : xs.length = n := ha.len
  have lb : ys.length = m := hb.len
  by_cases hl : n = m
  · subst hl
    have LA := Lib.hid la
    have LB := Lib.hid lb
    clear ha hb la lb
    go_enter Tryz.func48, Tryz.ntmps48
    go_wp2
    go_loopw [13] (fun i wr => ∃ k : Nat, k ≤ n ∧ i = .int .i64 k ∧ Hid (xs.take k = ys.take k) ∧ Below w.heap.size w wr) (fun i _ => n - (intOf i).toNat)
    case atStart => exact ⟨0, Nat.zero_le _, rfl, Lib.hid (by simp), Below.refl _ _⟩
    case round =>
      obtain ⟨k, hk, rfl, hf, hb⟩ := hrel
      by_cases hlt : k < n
      · obtain ⟨s, i, g, o, hx, rfl, hg, c1, c2⟩ := (HA.out.below hb).get hlt
        obtain ⟨s2, i2, h, p, hy, rfl, hh, c3, c4⟩ := (HB.out.below hb).get hlt
        have i0 : (0 : Int) ≤ (k : Int) := by omega
        have i1 : (k : Int) < (n : Int) := by omega
        by_cases e : ((s, i) : Ent) = (s2, i2)
        · have HF := Lib.hid (show xs.take (k + 1) = ys.take (k + 1) by rw [List.take_add_one, List.take_add_one, hf.out, hx, hy, e])
          obtain ⟨rfl, rfl⟩ : s = s2 ∧ i = i2 := by simpa using e
          have hs := bytes_eq (rfl : s = s)
          have hi : (i == i) = true := by simp
          clear hx hy e
          go_wp2
          go_quiet (fail)
          go_wp2
          go_roundw
          case rel => exact ⟨k + 1, by omega, by go_num, HF, below_drewN hb _⟩
          case measure => simp [intOf]; omega
        · have HF := Lib.hid (show decide (xs = ys) = false by simpa using take_ne hx hy e)
          clear hx hy
          by_cases hs : s = s2
          · have hij : ¬ i = i2 := fun h2 => e (by rw [hs, h2])
            have hs3 := bytes_eq hs
            have hi3 := int_ne hij
            clear hs hij e
            go_wp2
            go_quiet (fail)
            go_wp2
            go_ret
            exact ⟨by rw [HF.out]; rfl, below_drewN hb _⟩
          · have hs3 := bytes_ne hs
            clear hs e
            go_wp2
            go_quiet (fail)
            go_wp2
            go_ret
            exact ⟨by rw [HF.out]; rfl, below_drewN hb _⟩
      · obtain rfl : k = n := by omega
        have HF := Lib.hid (show decide (xs = ys) = true by
          have h := hf.out
          rw [List.take_of_length_le (by rw [LA.out]; exact Nat.le_refl _), List.take_of_length_le (by rw [LB.out]; exact Nat.le_refl _)] at h
          simpa using h)
        go_wp2
        go_ret
        exact ⟨by rw [HF.out]; rfl, hb⟩
  · have HF := Lib.hid (show decide (xs = ys) = false by
      simp only [decide_eq_false_iff_not]
      intro h
      exact hl (by rw [← la, ← lb, h]))
    have hne : ¬ (n : Int) = (m : Int) := by omega
    have hd : decide (n = m) = false := by simpa using hl
    clear ha hb hl la lb
    go_enter Tryz.func48, Tryz.ntmps48
    go_wp2
    go_ret
    exact ⟨by rw [HF.out]; rfl, Below.refl _ _⟩

end Go.Proofs.YtkibddcjogfklaaGreatDoor.fall

namespace Go.Proofs.YtkibddcjogfklaaGreatDoor.fall
open Go.RowKit
open kit strs recs disk deed kd

def Lens (d : D) : Prop := d.nodes.length ≤ 2000000 ∧ d.ents.length ≤ 2000000 ∧ d.old.length ≤ 2000000 ∧ d.steps.length ≤ 2000000
def sameB (a b : D) : Bool := decide (a.nodes = b.nodes) && decide (a.ents = b.ents) && decide (a.old = b.old) && decide (a.steps = b.steps) && decide (a.room = b.room) && decide (a.next = b.next)
theorem lens {d : D} (h : okD d) : Lens d := by
  have h := h.2
  unfold bulk bulkN bulkE at h
  simp only [List.length_map] at h
  unfold Lens
  omega

set_option maxHeartbeats 2000000 in
set_option maxRecDepth 100000 in
theorem implSameDisk (u v : Value) (a b : D) (w : World) (ha : Lens a) (hb : Lens b) (hu : IsDisk w u a) (hv : IsDisk w v b) :
    Calls Tryz.prog 22 #[u, v] w fun e w' => e = .returned (.bool (sameB a b)) ∧ Below w.heap.size w w' := by
  obtain ⟨l1, l2, l3, l4⟩ := ha
  obtain ⟨m1, m2, m3, m4⟩ := hb
  obtain ⟨aN, aE, aO, aS, nN, cN, nE, cE, nO, cO, nS, cS, rfl, p1, p2, p3, p4⟩ := hu
  obtain ⟨bN, bE, bO, bS, mN, eN, mE, eE, mO, eO, mS, eS, rfl, q1, q2, q3, q4⟩ := hv
  obtain rfl := p1.len
  obtain rfl := p2.len
  obtain rfl := p3.len
  obtain rfl := p4.1
  obtain rfl := q1.len
  obtain rfl := q2.len
  obtain rfl := q3.len
  obtain rfl := q4.1
  obtain ⟨W, hW⟩ : ∃ W, W = ((w.alloc (.cells #[.slice aN a.nodes.length cN, .slice aE a.ents.length cE, .slice aO a.old.length cO, .slice aS a.steps.length cS, .int .i64 a.room, .int .i64 a.next] 32)).alloc (.cells #[.slice bN b.nodes.length eN, .slice bE b.ents.length eE, .slice bO b.old.length eO, .slice bS b.steps.length eS, .int .i64 b.room, .int .i64 b.next] 32)) := ⟨_, rfl⟩
  have hW1 : Below w.heap.size w (w.alloc (.cells #[.slice aN a.nodes.length cN, .slice aE a.ents.length cE, .slice aO a.old.length cO, .slice aS a.steps.length cS, .int .i64 a.room, .int .i64 a.next] 32)) := (Below.refl _ _).alloc (Nat.le_refl _) _
  have hWB : Below w.heap.size w W := by rw [hW]; exact hW1.alloc hW1.size _
  have bxa : disk.Box W w.heap.size [.slice aN a.nodes.length cN, .slice aE a.ents.length cE, .slice aO a.old.length cO, .slice aS a.steps.length cS, .int .i64 a.room, .int .i64 a.next] := by
    rw [hW]
    exact (Box.new w #[.slice aN a.nodes.length cN, .slice aE a.ents.length cE, .slice aO a.old.length cO, .slice aS a.steps.length cS, .int .i64 a.room, .int .i64 a.next] _).below ((Below.refl _ _).alloc (Nat.le_refl _) _)
  have bxb : disk.Box W (w.heap.size + 1) [.slice bN b.nodes.length eN, .slice bE b.ents.length eE, .slice bO b.old.length eO, .slice bS b.steps.length eS, .int .i64 b.room, .int .i64 b.next] := by
    rw [hW]
    have := Box.new (w.alloc (.cells #[.slice aN a.nodes.length cN, .slice aE a.ents.length cE, .slice aO a.old.length cO, .slice aS a.steps.length cS, .int .i64 a.room, .int .i64 a.next] 32)) #[.slice bN b.nodes.length eN, .slice bE b.ents.length eE, .slice bO b.old.length eO, .slice bS b.steps.length eS, .int .i64 b.room, .int .i64 b.next] 32
    simpa using this
  have P1 := Lib.hid (p1.below hWB)
  have P2 := Lib.hid (p2.below hWB)
  have P3 := Lib.hid (p3.below hWB)
  have P4 := Lib.hid (p4.below hWB)
  have Q1 := Lib.hid (q1.below hWB)
  have Q2 := Lib.hid (q2.below hWB)
  have Q3 := Lib.hid (q3.below hWB)
  have Q4 := Lib.hid (q4.below hWB)
  have BA := Lib.hid bxa
  have BB := Lib.hid bxb
  have HW := Lib.hid hWB
  obtain ⟨R, hR⟩ : ∃ R, R = sameB a b := ⟨_, rfl⟩
  have HR := Lib.hid hR
  rw [← hR]
  clear p1 p2 p3 p4 q1 q2 q3 q4 bxa bxb hW1 hWB hR
  have x0 := BA.out.at 0 _ rfl
  have y0 := BB.out.at 0 _ rfl
  rw [hW] at x0 y0
  go_enter Tryz.func22, Tryz.ntmps22
  obtain ⟨r0, hr0⟩ : ∃ r, r = decide (a.nodes = b.nodes) := ⟨_, rfl⟩
  have C0 := Lib.hid (implEqualN _ _ cN eN _ _ a.nodes b.nodes W (by unfold maxLen; omega) (by unfold maxLen; omega) (P1.out) (Q1.out))
  rw [← hr0] at C0
  have HR0 := Lib.hid hr0
  clear hr0
  go_wp2_with (fail)
  rw [← hW]
  clear hW x0 y0
  refine C0.out.mono ?_
  rintro e w1 ⟨rfl, hb⟩
  have H1 := Lib.hid hb
  clear hb C0
  cases r0 with
  | false =>
    have HF := Lib.hid (show R = false by rw [HR.out]; unfold sameB; rw [← HR0.out]; simp)
    go_wp2
    go_ret
    exact ⟨by rw [HF.out]; rfl, HW.out.trans (H1.out.mono HW.out.size)⟩
  | true =>
    obtain ⟨r1, hr1⟩ : ∃ r, r = decide (a.ents = b.ents) := ⟨_, rfl⟩
    have C1 := Lib.hid (implEqualE _ _ cE eE _ _ a.ents b.ents w1 (by unfold maxLen; omega) (by unfold maxLen; omega) (P2.out.below H1.out) (Q2.out.below H1.out))
    rw [← hr1] at C1
    have HR1 := Lib.hid hr1
    clear hr1
    have x1 := (BA.out.below H1.out).at 1 _ rfl
    have y1 := (BB.out.below H1.out).at 1 _ rfl
    go_wp2_with (fail)
    clear x1 y1
    refine C1.out.mono ?_
    rintro e w2 ⟨rfl, hb⟩
    have H2 := Lib.hid (H1.out.trans (hb.mono H1.out.size))
    clear hb C1
    cases r1 with
    | false =>
      have HF := Lib.hid (show R = false by rw [HR.out]; unfold sameB; rw [← HR1.out]; simp)
      go_wp2
      go_ret
      exact ⟨by rw [HF.out]; rfl, HW.out.trans (H2.out.mono HW.out.size)⟩
    | true =>
      obtain ⟨r2, hr2⟩ : ∃ r, r = decide (a.old = b.old) := ⟨_, rfl⟩
      have C2 := Lib.hid (implEqualE _ _ cO eO _ _ a.old b.old w2 (by unfold maxLen; omega) (by unfold maxLen; omega) (P3.out.below H2.out) (Q3.out.below H2.out))
      rw [← hr2] at C2
      have HR2 := Lib.hid hr2
      clear hr2
      have x2 := (BA.out.below H2.out).at 2 _ rfl
      have y2 := (BB.out.below H2.out).at 2 _ rfl
      go_wp2_with (fail)
      clear x2 y2
      refine C2.out.mono ?_
      rintro e w3 ⟨rfl, hb⟩
      have H3 := Lib.hid (H2.out.trans (hb.mono H2.out.size))
      clear hb C2
      cases r2 with
      | false =>
        have HF := Lib.hid (show R = false by rw [HR.out]; unfold sameB; rw [← HR2.out]; simp)
        go_wp2
        go_ret
        exact ⟨by rw [HF.out]; rfl, HW.out.trans (H3.out.mono HW.out.size)⟩
      | true =>
        obtain ⟨r3, hr3⟩ : ∃ r, r = decide (a.steps = b.steps) := ⟨_, rfl⟩
        have C3 := Lib.hid (implEqualS _ _ cS eS _ _ a.steps b.steps w3 (by unfold maxLen; omega) (by unfold maxLen; omega) (P4.out.below H3.out) (Q4.out.below H3.out))
        rw [← hr3] at C3
        have HR3 := Lib.hid hr3
        clear hr3
        have x3 := (BA.out.below H3.out).at 3 _ rfl
        have y3 := (BB.out.below H3.out).at 3 _ rfl
        go_wp2_with (fail)
        clear x3 y3
        refine C3.out.mono ?_
        rintro e w4 ⟨rfl, hb⟩
        have H4 := Lib.hid (H3.out.trans (hb.mono H3.out.size))
        clear hb C3
        cases r3 with
        | false =>
          have HF := Lib.hid (show R = false by rw [HR.out]; unfold sameB; rw [← HR3.out]; simp)
          go_wp2
          go_ret
          exact ⟨by rw [HF.out]; rfl, HW.out.trans (H4.out.mono HW.out.size)⟩
        | true =>
          have x4 := (BA.out.below H4.out).at 4 _ rfl
          have y4 := (BB.out.below H4.out).at 4 _ rfl
          have x5 := (BA.out.below H4.out).at 5 _ rfl
          have y5 := (BB.out.below H4.out).at 5 _ rfl
          by_cases e1 : a.room = b.room
          · have e3 : (a.room == b.room) = true := by simpa using e1
            by_cases e2 : a.next = b.next
            · have e4 : (a.next == b.next) = true := by simpa using e2
              have HF := Lib.hid (show R = true by rw [HR.out]; unfold sameB; rw [← HR0.out, ← HR1.out, ← HR2.out, ← HR3.out, e1, e2]; simp)
              clear e1 e2
              go_wp2
              go_ret
              exact ⟨by rw [HF.out]; rfl, HW.out.trans (H4.out.mono HW.out.size)⟩
            · have e4 : (a.next == b.next) = false := by simpa using e2
              have HF := Lib.hid (show R = false by rw [HR.out]; unfold sameB; simp [e2])
              clear e1 e2
              go_wp2
              go_ret
              exact ⟨by rw [HF.out]; rfl, HW.out.trans (H4.out.mono HW.out.size)⟩
          · have e3 : (a.room == b.room) = false := by simpa using e1
            have HF := Lib.hid (show R = false by rw [HR.out]; unfold sameB; simp [e1])
            clear e1
            go_wp2
            go_ret
            exact ⟨by rw [HF.out]; rfl, HW.out.trans (H4.out.mono HW.out.size)⟩

set_option maxHeartbeats 2000000 in
set_option maxRecDepth 100000 in
theorem specSameDisk (u v : Value) (a b : D) (w : World) (ha : Lens a) (hb : Lens b) (hu : IsDisk w u a) (hv : IsDisk w v b) :
    Calls Tryz.prog 14 #[u, v] w fun e w' => e = .returned (.bool (sameB a b)) ∧ Below w.heap.size w w' := by
  obtain ⟨l1, l2, l3, l4⟩ := ha
  obtain ⟨m1, m2, m3, m4⟩ := hb
  obtain ⟨aN, aE, aO, aS, nN, cN, nE, cE, nO, cO, nS, cS, rfl, p1, p2, p3, p4⟩ := hu
  obtain ⟨bN, bE, bO, bS, mN, eN, mE, eE, mO, eO, mS, eS, rfl, q1, q2, q3, q4⟩ := hv
  obtain rfl := p1.len
  obtain rfl := p2.len
  obtain rfl := p3.len
  obtain rfl := p4.1
  obtain rfl := q1.len
  obtain rfl := q2.len
  obtain rfl := q3.len
  obtain rfl := q4.1
  obtain ⟨W, hW⟩ : ∃ W, W = ((w.alloc (.cells #[.slice aN a.nodes.length cN, .slice aE a.ents.length cE, .slice aO a.old.length cO, .slice aS a.steps.length cS, .int .i64 a.room, .int .i64 a.next] 32)).alloc (.cells #[.slice bN b.nodes.length eN, .slice bE b.ents.length eE, .slice bO b.old.length eO, .slice bS b.steps.length eS, .int .i64 b.room, .int .i64 b.next] 32)) := ⟨_, rfl⟩
  have hW1 : Below w.heap.size w (w.alloc (.cells #[.slice aN a.nodes.length cN, .slice aE a.ents.length cE, .slice aO a.old.length cO, .slice aS a.steps.length cS, .int .i64 a.room, .int .i64 a.next] 32)) := (Below.refl _ _).alloc (Nat.le_refl _) _
  have hWB : Below w.heap.size w W := by rw [hW]; exact hW1.alloc hW1.size _
  have bxa : disk.Box W w.heap.size [.slice aN a.nodes.length cN, .slice aE a.ents.length cE, .slice aO a.old.length cO, .slice aS a.steps.length cS, .int .i64 a.room, .int .i64 a.next] := by
    rw [hW]
    exact (Box.new w #[.slice aN a.nodes.length cN, .slice aE a.ents.length cE, .slice aO a.old.length cO, .slice aS a.steps.length cS, .int .i64 a.room, .int .i64 a.next] _).below ((Below.refl _ _).alloc (Nat.le_refl _) _)
  have bxb : disk.Box W (w.heap.size + 1) [.slice bN b.nodes.length eN, .slice bE b.ents.length eE, .slice bO b.old.length eO, .slice bS b.steps.length eS, .int .i64 b.room, .int .i64 b.next] := by
    rw [hW]
    have := Box.new (w.alloc (.cells #[.slice aN a.nodes.length cN, .slice aE a.ents.length cE, .slice aO a.old.length cO, .slice aS a.steps.length cS, .int .i64 a.room, .int .i64 a.next] 32)) #[.slice bN b.nodes.length eN, .slice bE b.ents.length eE, .slice bO b.old.length eO, .slice bS b.steps.length eS, .int .i64 b.room, .int .i64 b.next] 32
    simpa using this
  have P1 := Lib.hid (p1.below hWB)
  have P2 := Lib.hid (p2.below hWB)
  have P3 := Lib.hid (p3.below hWB)
  have P4 := Lib.hid (p4.below hWB)
  have Q1 := Lib.hid (q1.below hWB)
  have Q2 := Lib.hid (q2.below hWB)
  have Q3 := Lib.hid (q3.below hWB)
  have Q4 := Lib.hid (q4.below hWB)
  have BA := Lib.hid bxa
  have BB := Lib.hid bxb
  have HW := Lib.hid hWB
  obtain ⟨R, hR⟩ : ∃ R, R = sameB a b := ⟨_, rfl⟩
  have HR := Lib.hid hR
  rw [← hR]
  clear p1 p2 p3 p4 q1 q2 q3 q4 bxa bxb hW1 hWB hR
  have x0 := (BA.out).at 0 _ rfl
  have y0 := (BB.out).at 0 _ rfl
  have x1 := (BA.out).at 1 _ rfl
  have y1 := (BB.out).at 1 _ rfl
  have x2 := (BA.out).at 2 _ rfl
  have y2 := (BB.out).at 2 _ rfl
  have x3 := (BA.out).at 3 _ rfl
  have y3 := (BB.out).at 3 _ rfl
  have x4 := (BA.out).at 4 _ rfl
  have y4 := (BB.out).at 4 _ rfl
  have x5 := (BA.out).at 5 _ rfl
  have y5 := (BB.out).at 5 _ rfl
  rw [hW] at x0 y0 x1 y1 x2 y2 x3 y3 x4 y4 x5 y5
  go_enter Tryz.func14, Tryz.ntmps14
  by_cases g1 : a.nodes.length = b.nodes.length
  rotate_left
  · have HF := Lib.hid (show R = false by rw [HR.out]; unfold sameB; rw [decide_eq_false (fun h => g1 (by rw [h]))]; simp)
    have g2 : ¬ (a.nodes.length : Int) = (b.nodes.length : Int) := by omega
    have g3 : decide (a.nodes.length = b.nodes.length) = false := by simpa using g1
    have g0 : ((a.nodes.length : Int) != (b.nodes.length : Int)) = true := by simp; omega
    go_wp2
    all_goals
      first
        | omega
        | (go_ret
           exact ⟨by rw [HF.out]; rfl, by rw [← hW]; exact HW.out⟩)
  obtain ⟨r1, hr1⟩ : ∃ r, r = decide (a.ents = b.ents) := ⟨_, rfl⟩
  have C1 := Lib.hid (specSame _ _ cE eE _ _ a.ents b.ents W (by unfold maxLen; omega) (by unfold maxLen; omega) (P2.out) (Q2.out))
  rw [← hr1] at C1
  have HR1 := Lib.hid hr1
  clear hr1
  have g2 : ((a.nodes.length : Int) == (b.nodes.length : Int)) = true := by rw [g1]; exact beq_self_eq_true _
  have g3 : decide (a.nodes.length = b.nodes.length) = true := by simpa using g1
  have g0 : ((a.nodes.length : Int) != (b.nodes.length : Int)) = false := by rw [g1]; exact bne_self_eq_false _
  have G1 := Lib.hid g1
  clear g1
  go_wp2_with (fail)
  rw [← hW]
  clear hW x0 y0 x1 y1 x2 y2 x3 y3 x4 y4 x5 y5
  refine C1.out.mono ?_
  rintro e w1 ⟨rfl, hb⟩
  have H1 := Lib.hid hb
  clear hb C1
  have x0 := (BA.out.below H1.out).at 0 _ rfl
  have y0 := (BB.out.below H1.out).at 0 _ rfl
  have x1 := (BA.out.below H1.out).at 1 _ rfl
  have y1 := (BB.out.below H1.out).at 1 _ rfl
  have x2 := (BA.out.below H1.out).at 2 _ rfl
  have y2 := (BB.out.below H1.out).at 2 _ rfl
  have x3 := (BA.out.below H1.out).at 3 _ rfl
  have y3 := (BB.out.below H1.out).at 3 _ rfl
  have x4 := (BA.out.below H1.out).at 4 _ rfl
  have y4 := (BB.out.below H1.out).at 4 _ rfl
  have x5 := (BA.out.below H1.out).at 5 _ rfl
  have y5 := (BB.out.below H1.out).at 5 _ rfl
  cases r1 with
  | false =>
    have HF := Lib.hid (show R = false by rw [HR.out]; unfold sameB; rw [← HR1.out]; simp)
    go_wp2
    go_ret
    exact ⟨by rw [HF.out]; rfl, HW.out.trans (H1.out.mono HW.out.size)⟩
  | true =>
    obtain ⟨r2, hr2⟩ : ∃ r, r = decide (a.old = b.old) := ⟨_, rfl⟩
    have C2 := Lib.hid (specSame _ _ cO eO _ _ a.old b.old w1 (by unfold maxLen; omega) (by unfold maxLen; omega) (P3.out.below H1.out) (Q3.out.below H1.out))
    rw [← hr2] at C2
    have HR2 := Lib.hid hr2
    clear hr2
    go_wp2_with (fail)
    clear x0 y0 x1 y1 x2 y2 x3 y3 x4 y4 x5 y5
    refine C2.out.mono ?_
    rintro e w2 ⟨rfl, hb⟩
    have H2 := Lib.hid (H1.out.trans (hb.mono H1.out.size))
    clear hb C2
    have x0 := (BA.out.below H2.out).at 0 _ rfl
    have y0 := (BB.out.below H2.out).at 0 _ rfl
    have x1 := (BA.out.below H2.out).at 1 _ rfl
    have y1 := (BB.out.below H2.out).at 1 _ rfl
    have x2 := (BA.out.below H2.out).at 2 _ rfl
    have y2 := (BB.out.below H2.out).at 2 _ rfl
    have x3 := (BA.out.below H2.out).at 3 _ rfl
    have y3 := (BB.out.below H2.out).at 3 _ rfl
    have x4 := (BA.out.below H2.out).at 4 _ rfl
    have y4 := (BB.out.below H2.out).at 4 _ rfl
    have x5 := (BA.out.below H2.out).at 5 _ rfl
    have y5 := (BB.out.below H2.out).at 5 _ rfl
    cases r2 with
    | false =>
      have HF := Lib.hid (show R = false by rw [HR.out]; unfold sameB; rw [← HR2.out]; simp)
      go_wp2
      go_ret
      exact ⟨by rw [HF.out]; rfl, HW.out.trans (H2.out.mono HW.out.size)⟩
    | true =>
      by_cases g4 : a.steps.length = b.steps.length
      rotate_left
      · have HF := Lib.hid (show R = false by rw [HR.out]; unfold sameB; rw [decide_eq_false (show ¬ a.steps = b.steps from fun h => g4 (by rw [h]))]; simp)
        have g5 : ¬ (a.steps.length : Int) = (b.steps.length : Int) := by omega
        have g6 : decide (a.steps.length = b.steps.length) = false := by simpa using g4
        have g7 : ((a.steps.length : Int) != (b.steps.length : Int)) = true := by simp; omega
        go_wp2
        go_ret
        exact ⟨by rw [HF.out]; rfl, HW.out.trans (H2.out.mono HW.out.size)⟩
      have g5 : ((a.steps.length : Int) == (b.steps.length : Int)) = true := by rw [g4]; exact beq_self_eq_true _
      have g6 : decide (a.steps.length = b.steps.length) = true := by simpa using g4
      have g7 : ((a.steps.length : Int) != (b.steps.length : Int)) = false := by rw [g4]; exact bne_self_eq_false _
      have G4 := Lib.hid g4
      clear g4
      by_cases e1 : a.room = b.room
      rotate_left
      · have e3 : (a.room == b.room) = false := by simpa using e1
        have e5 : (a.room != b.room) = true := by simpa using e1
        have HF := Lib.hid (show R = false by rw [HR.out]; unfold sameB; simp [e1])
        clear e1
        go_wp2
        go_ret
        exact ⟨by rw [HF.out]; rfl, HW.out.trans (H2.out.mono HW.out.size)⟩
      have e3 : (a.room == b.room) = true := by simpa using e1
      have e5 : (a.room != b.room) = false := by simpa using e1
      by_cases e2 : a.next = b.next
      rotate_left
      · have e4 : (a.next == b.next) = false := by simpa using e2
        have e6 : (a.next != b.next) = true := by simpa using e2
        have HF := Lib.hid (show R = false by rw [HR.out]; unfold sameB; simp [e2])
        clear e1 e2
        go_wp2
        go_ret
        exact ⟨by rw [HF.out]; rfl, HW.out.trans (H2.out.mono HW.out.size)⟩
      have e4 : (a.next == b.next) = true := by simpa using e2
      have e6 : (a.next != b.next) = false := by simpa using e2
      have HE := Lib.hid (show R = (decide (a.nodes = b.nodes) && decide (a.steps = b.steps)) by rw [HR.out]; unfold sameB; rw [← HR1.out, ← HR2.out, e1, e2]; simp)
      have HL := Lib.hid (And.intro G1.out G4.out)
      clear e1 e2
      go_wp2
      clear e3 e4 e5 e6 g0 g2 g3 g5 g6 g7
      clear x0 y0 x1 y1 x2 y2 x3 y3 x4 y4 x5 y5
      go_loopw [5] (fun i wr => ∃ k : Nat, k ≤ a.nodes.length ∧ i = .int .i64 k ∧ Hid (a.nodes.take k = b.nodes.take k) ∧ Below w2.heap.size w2 wr) (fun i _ => a.nodes.length - (intOf i).toNat)
      case atStart => exact ⟨0, Nat.zero_le _, rfl, Lib.hid (by simp), Below.refl _ _⟩
      case round =>
        obtain ⟨k, hk, rfl, hf, hb⟩ := hrel
        have HBr := Lib.hid (H2.out.trans (hb.mono H2.out.size))
        have x0 := (BA.out.below HBr.out).at 0 _ rfl
        have y0 := (BB.out.below HBr.out).at 0 _ rfl
        have x3 := (BA.out.below HBr.out).at 3 _ rfl
        have y3 := (BB.out.below HBr.out).at 3 _ rfl
        by_cases hlt : k < a.nodes.length
        · obtain ⟨i, s, j, g, o, hx, rfl, hg, c1, c2, c3⟩ := (P1.out.below HBr.out).get hlt
          obtain ⟨i2, s2, j2, h, p, hy, rfl, hh, c4, c5, c6⟩ := (Q1.out.below HBr.out).get (show k < b.nodes.length by have := HL.out.1; omega)
          have i0 : (0 : Int) ≤ (k : Int) := by omega
          have i1 : (k : Int) < (a.nodes.length : Int) := by omega
          have i2' : (k : Int) < (b.nodes.length : Int) := by have := HL.out.1; omega
          by_cases e : ((i, s, j) : Nod) = (i2, s2, j2)
          · have HF := Lib.hid (show a.nodes.take (k + 1) = b.nodes.take (k + 1) by rw [List.take_add_one, List.take_add_one, hf.out, hx, hy, e])
            obtain ⟨rfl, rfl, rfl⟩ : i = i2 ∧ s = s2 ∧ j = j2 := by simpa using e
            have hs := bytes_eq (rfl : s = s)
            have hi : (i == i) = true := by simp
            have hj : (j == j) = true := by simp
            clear hx hy e
            go_wp2
            go_quiet (fail)
            go_wp2
            go_roundw
            case rel => exact ⟨k + 1, by omega, by go_num, HF, below_drewN hb _⟩
            case measure => simp [intOf]; omega
          · have HF := Lib.hid (show R = false by rw [HE.out, show decide (a.nodes = b.nodes) = false by simpa using take_ne hx hy e]; rfl)
            clear hx hy
            by_cases hi : i = i2
            · have hi3 : (i == i2) = true := by simpa using hi
              by_cases hs : s = s2
              · have hjj : ¬ j = j2 := fun h2 => e (by rw [hi, hs, h2])
                have hs3 := bytes_eq hs
                have hj3 := int_ne hjj
                clear hi hs hjj e
                go_wp2
                go_quiet (fail)
                go_wp2
                go_ret
                exact ⟨by rw [HF.out]; rfl, below_drewN (HW.out.trans (HBr.out.mono HW.out.size)) _⟩
              · have hs3 := bytes_ne hs
                clear hi hs e
                go_wp2
                go_quiet (fail)
                go_wp2
                go_ret
                exact ⟨by rw [HF.out]; rfl, below_drewN (HW.out.trans (HBr.out.mono HW.out.size)) _⟩
            · have hi3 := int_ne hi
              clear hi e
              go_wp2
              go_quiet (fail)
              go_wp2
              go_ret
              exact ⟨by rw [HF.out]; rfl, below_drewN (HW.out.trans (HBr.out.mono HW.out.size)) _⟩
        · obtain rfl : k = a.nodes.length := by omega
          have HN := Lib.hid (show decide (a.nodes = b.nodes) = true by
            have h := hf.out
            rw [List.take_of_length_le (Nat.le_refl _), List.take_of_length_le (by rw [HL.out.1]; exact Nat.le_refl _)] at h
            simpa using h)
          have HBn := Lib.hid hb
          have i1 : ¬ (a.nodes.length : Int) < (a.nodes.length : Int) := by omega
          clear hf hb hlt hk
          go_wp2
          clear x0 y0 x3 y3 i1
          go_loopw [6] (fun i wr => ∃ k : Nat, k ≤ a.steps.length ∧ i = .int .i64 k ∧ Hid (a.steps.take k = b.steps.take k) ∧ Below w2.heap.size w2 wr) (fun i _ => a.steps.length - (intOf i).toNat)
          case atStart => exact ⟨0, Nat.zero_le _, rfl, Lib.hid (by simp), HBn.out⟩
          case round =>
            obtain ⟨k, hk, rfl, hf, hb⟩ := hrel
            have HBr := Lib.hid (H2.out.trans (hb.mono H2.out.size))
            have x3 := (BA.out.below HBr.out).at 3 _ rfl
            have y3 := (BB.out.below HBr.out).at 3 _ rfl
            by_cases hlt : k < a.steps.length
            · obtain ⟨s, g, o, hx, rfl, hg, c1⟩ := strAt (P4.out.below HBr.out) hlt
              obtain ⟨s2, h, p, hy, rfl, hh, c2⟩ := strAt (Q4.out.below HBr.out) (show k < b.steps.length by have := HL.out.2; omega)
              have i0 : (0 : Int) ≤ (k : Int) := by omega
              have i1 : (k : Int) < (a.steps.length : Int) := by omega
              have i2' : (k : Int) < (b.steps.length : Int) := by have := HL.out.2; omega
              by_cases e : s = s2
              · have HF := Lib.hid (show a.steps.take (k + 1) = b.steps.take (k + 1) by rw [List.take_add_one, List.take_add_one, hf.out, hx, hy, e])
                obtain rfl : s = s2 := id e
                have hs := bytes_eq (rfl : s = s)
                clear hx hy
                go_wp2
                go_quiet (fail)
                go_wp2
                go_roundw
                case rel => exact ⟨k + 1, by omega, by go_num, HF, below_drewN hb _⟩
                case measure => simp [intOf]; omega
              · have HF := Lib.hid (show R = false by rw [HE.out, show decide (a.steps = b.steps) = false by simpa using take_ne hx hy e]; simp)
                have hs3 := bytes_ne e
                clear hx hy e
                go_wp2
                go_quiet (fail)
                go_wp2
                go_ret
                exact ⟨by rw [HF.out]; rfl, below_drewN (HW.out.trans (HBr.out.mono HW.out.size)) _⟩
            · obtain rfl : k = a.steps.length := by omega
              have HF := Lib.hid (show R = true by
                have h := hf.out
                rw [List.take_of_length_le (Nat.le_refl _), List.take_of_length_le (by rw [HL.out.2]; exact Nat.le_refl _)] at h
                rw [HE.out, HN.out, h]
                simp)
              have i1 : ¬ (a.steps.length : Int) < (a.steps.length : Int) := by omega
              clear hf
              go_wp2
              go_ret
              exact ⟨by rw [HF.out]; rfl, HW.out.trans (HBr.out.mono HW.out.size)⟩

end Go.Proofs.YtkibddcjogfklaaGreatDoor.fall
