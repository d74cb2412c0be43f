/-
  Contracts of the draws' own helpers: l01New, l01Byte, l01Below (what they give lies within bounds; only the cursor is written).
-/
import Derived.Test.YtiehfobcbhgfkaaGreatDoorKit
import Derived.Deep.QuietTactic
import Derived.BigQuiet
import Derived.Laws.OwnMore
import Derived.WalkSmall
namespace Go.Proofs.YtiehfobcbhgfkaaGreatDoor.draw
set_option maxRecDepth 20000
open Go.RowKit
open kit

theorem and255 (x : Int) : 0 ≤ bits BinOp.and IntKind.i64 x 255 ∧ bits BinOp.and IntKind.i64 x 255 ≤ 255 := by
  simp only [bits, BitVec.toNat_and]
  have h : (BitVec.ofInt IntKind.i64.bits x).toNat &&& (BitVec.ofInt IntKind.i64.bits 255).toNat ≤ 255 := Nat.and_le_right
  rw [IntKind.wrap_i64]
  omega

/-- the drawn bytes: nil, or a row below block B -/
def CodeAt (w : World) (B : Nat) (a : Option Addr) (len : Nat) : Prop :=
  len ≤ 1048576 ∧ (len = 0 ∨ ∃ b off, a = some ⟨b, off, none⟩ ∧ b < B ∧ ∀ j, j < len → ∃ z : Int, w.cell? ⟨b, off + j, none⟩ = some (.int .u8 z) ∧ 0 ≤ z ∧ z ≤ 255)
theorem CodeAt.below {w w' : World} {B : Nat} {a : Option Addr} {len : Nat} (h : CodeAt w B a len) (hb : Below B w w') : CodeAt w' B a len := by
  refine ⟨h.1, h.2.imp id fun ⟨b, off, h1, h2, h3⟩ => ⟨b, off, h1, h2, fun j hj => ?_⟩⟩
  obtain ⟨z, hz, h4⟩ := h3 j hj
  exact ⟨z, (hb.cell (p := ⟨b, off + j, none⟩) h2).trans hz, h4⟩

theorem CodeAt.raise {w : World} {B B' : Nat} {a : Option Addr} {len : Nat} (h : CodeAt w B a len) (hB : B ≤ B') : CodeAt w B' a len :=
  ⟨h.1, h.2.imp id fun ⟨b, off, h1, h2, h3⟩ => ⟨b, off, h1, Nat.lt_of_lt_of_le h2 hB, h3⟩⟩

/-- the cursor in block c -/
def Cur (w : World) (c : Nat) (a : Option Addr) (len cap : Nat) : Prop :=
  ∃ (i : Nat) (h : Int), i ≤ len ∧ w.heap[c]? = some (.cells #[.slice a len cap, .int .i64 i, .int .i64 h] 107 (0, 0))

set_option maxHeartbeats 400000 in
theorem new_any (B : Nat) (a : Option Addr) (len cap : Nat) (w : World) (hB : B ≤ w.heap.size) (hc : CodeAt w B a len) :
    Calls Tryz.prog 51 #[.slice a len cap] w fun e w' => e = .returned (.pointer (some ⟨w.heap.size, 0, none⟩)) ∧ Cur w' w.heap.size a len cap ∧ Below w.heap.size w w' ∧ w'.heap.size = w.heap.size + 1 := by
  obtain ⟨hl, hd⟩ := hc
  have HD := Lib.hid hd
  clear hd
  go_enter Tryz.func51, Tryz.ntmps51
  go_wp2
  go_loopw [3, 4] (fun h i wr => ∃ (k : Nat) (x : Int), k ≤ len ∧ i = .int .i64 k ∧ h = .int .i64 x ∧ wr = w) (fun _ i _ => len - (intOf i).toNat)
  case atStart => exact ⟨0, _, Nat.zero_le _, rfl, rfl, rfl⟩
  case round =>
    obtain ⟨k, x, hk, rfl, rfl, rfl⟩ := hrel
    by_cases hlt : k < len
    · by_cases h4 : k < 4000
      · rcases HD.out with hd | ⟨b, off, rfl, hb, hz⟩
        · omega
        · obtain ⟨z, hz1, hz2, hz3⟩ := hz k hlt
          clear hz HD
          have i0 : (0 : Int) ≤ (k : Int) := by omega
          have i1 : (k : Int) < (len : Int) := by omega
          have i2 : (k : Int) < 4000 := by omega
          go_wp2
          go_roundw
          case rel => exact ⟨k + 1, _, by omega, by go_num, rfl, trivial⟩
          case measure => simp [intOf]; omega
      · have i1 : (k : Int) < (len : Int) := by omega
        have i2 : ¬ (k : Int) < 4000 := by omega
        go_wp2
        go_ret
        exact ⟨rfl, ⟨0, x, Nat.zero_le _, heap_alloc_new wr _⟩, (Below.refl _ _).alloc (Nat.le_refl _) _, by simp⟩
    · go_wp2
      go_ret
      exact ⟨rfl, ⟨0, x, Nat.zero_le _, heap_alloc_new wr _⟩, (Below.refl _ _).alloc (Nat.le_refl _) _, by simp⟩

theorem setCell_grown (w : World) (c o : Nat) (v : Value) : w.grownBy (w.setCell ⟨c, o, none⟩ v) (some c) :=
  have h := (Below.refl c w).setCell (p := ⟨c, o, none⟩) (Nat.le_refl c) v
  ⟨h.os, h.tape, h.output, h.size, fun k _ hne => Below.heap_setCell w ⟨c, o, none⟩ v k (fun e => hne (by rw [e]))⟩
theorem drewN_grown (w : World) (n : Nat) (row : Option Nat) : w.grownBy (w.drewN n) row := ⟨rfl, rfl, rfl, Nat.le_refl _, fun _ _ _ => rfl⟩

theorem cur_set2 {w : World} {c : Nat} {x y z : Value} (hb : w.heap[c]? = some (.cells #[x, y, z] 107 (0, 0))) (z' : Value) (n : Nat) :
    ((w.setCell ⟨c, 2, none⟩ z').drewN n).heap[c]? = some (.cells #[x, y, z'] 107 (0, 0)) := heap_setCell_same w c 2 _ 107 z' hb
theorem cur_set21 {w : World} {c : Nat} {x y z : Value} (hb : w.heap[c]? = some (.cells #[x, y, z] 107 (0, 0))) (z' y' : Value) (n : Nat) :
    (((w.setCell ⟨c, 2, none⟩ z').drewN n).setCell ⟨c, 1, none⟩ y').heap[c]? = some (.cells #[x, y', z'] 107 (0, 0)) :=
  heap_setCell_same _ c 1 _ 107 y' (cur_set2 hb z' n)

theorem cur_set2n {w : World} {c : Nat} {x y z : Value} (hb : w.heap[c]? = some (.cells #[x, y, z] 107 (0, 0))) (z' : Value) (n m : Nat) :
    (((w.setCell ⟨c, 2, none⟩ z').drewN n).drewN m).heap[c]? = some (.cells #[x, y, z'] 107 (0, 0)) := cur_set2 hb z' n
theorem Cur.below {w w' : World} {c : Nat} {a : Option Addr} {len cap : Nat} (h : Cur w c a len cap) (hb : Below (c + 1) w w') : Cur w' c a len cap := by
  obtain ⟨i, x, h1, h2⟩ := h
  exact ⟨i, x, h1, (hb.block c (by omega)).trans h2⟩
theorem own_ne {w : World} {c : Nat} {e : TypeId} {v : Value} {n : Nat} {xs : List Value} (h : w.ownsRow (c + 1) e 1 v n xs) : v.ownBlock = none ∨ v.ownBlock ≠ some c := by
  refine .inr fun he => ?_
  have := (h.lt c he).1
  omega

def PostB (c : Nat) (a : Option Addr) (len cap : Nat) (most : Int) (w : World) (e : Ending) (w' : World) : Prop :=
  (∃ b : Int, 0 ≤ b ∧ b ≤ most ∧ e = .returned (.int .i64 b)) ∧ Cur w' c a len cap ∧ w.grownBy w' (some c)

set_option maxHeartbeats 400000 in
theorem byte_any (B c : Nat) (a : Option Addr) (len cap : Nat) (w : World) (hBc : B ≤ c) (hc : CodeAt w B a len) (hu : Cur w c a len cap) :
    Calls Tryz.prog 181 #[.pointer (some ⟨c, 0, none⟩)] w (PostB c a len cap 255 w) := by
  obtain ⟨hl, hd⟩ := hc
  obtain ⟨i, h, hi, hblk⟩ := hu
  have c0 : w.cell? ⟨c, 0, none⟩ = some (.slice a len cap) := by rw [cell_of_row w c 0 _ 107 (0, 0) hblk]; rfl
  have c1 : w.cell? ⟨c, 1, none⟩ = some (.int .i64 i) := by rw [cell_of_row w c 1 _ 107 (0, 0) hblk]; rfl
  have c2 : w.cell? ⟨c, 2, none⟩ = some (.int .i64 h) := by rw [cell_of_row w c 2 _ 107 (0, 0) hblk]; rfl
  have f1 : w.frozen? ⟨c, 1, none⟩ = false := by simp [World.frozen?, hblk]
  have f2 : w.frozen? ⟨c, 2, none⟩ = false := by simp [World.frozen?, hblk]
  have HD := Lib.hid hd
  have HB := Lib.hid hblk
  clear hd hblk
  by_cases hlt : i < len
  · rcases HD.out with hd | ⟨b, off, rfl, hb, hz⟩
    · omega
    · obtain ⟨z, hz1, hz2, hz3⟩ := hz i hlt
      clear hz HD
      have i0 : (0 : Int) ≤ (i : Int) := by omega
      have i1 : (i : Int) < (len : Int) := by omega
      have hne : b ≠ c := by omega
      go_enter Tryz.func181, Tryz.ntmps181
      go_wp2
      go_quiet (fail)
      go_wp2
      go_quiet (fail)
      go_wp2
      go_quiet (fail)
      go_wp2
      go_ret
      exact ⟨⟨_, (and255 _).1, (and255 _).2, rfl⟩, ⟨i + 1, _, by omega, by rw [show ((i + 1 : Nat) : Int) = (i : Int) + 1 by omega]; exact cur_set21 HB.out _ _ _⟩,
        grown_trans (grown_trans (setCell_grown _ _ _ _) (drewN_grown _ _ _)) (setCell_grown _ _ _ _)⟩
  · have i1 : (len : Int) ≤ (i : Int) := by omega
    have i2 : decide (i < len) = false := by simp; omega
    go_enter Tryz.func181, Tryz.ntmps181
    go_wp2
    go_quiet (fail)
    go_wp2
    go_quiet (fail)
    go_wp2
    go_ret
    exact ⟨⟨_, (and255 _).1, (and255 _).2, rfl⟩, ⟨i, _, hi, cur_set2n HB.out _ _ _⟩, grown_trans (grown_trans (setCell_grown _ _ _ _) (drewN_grown _ _ _)) (drewN_grown _ _ _)⟩

theorem CodeAt.grown {w w' : World} {B c : Nat} {a : Option Addr} {len : Nat} (h : CodeAt w B a len) (hBc : B ≤ c) (hB : B ≤ w.heap.size) (hg : w.grownBy w' (some c)) : CodeAt w' B a len :=
  h.below ((Below.refl B w).grown hg hB (fun k hk => by injection hk with hk; omega))

set_option maxHeartbeats 400000 in
theorem below_many (B c : Nat) (a : Option Addr) (len cap : Nat) (n : Int) (w : World) (hBc : B ≤ c) (hB : B ≤ w.heap.size) (hc : CodeAt w B a len) (hu : Cur w c a len cap) (h0 : 256 < n) (h1 : n ≤ 1000000000) :
    Calls Tryz.prog 139 #[.pointer (some ⟨c, 0, none⟩), .int .i64 n] w (PostB c a len cap (n - 1) w) := by
  go_enter Tryz.func139, Tryz.ntmps139
  go_wp2_with fail
  refine (byte_any B c a len cap w hBc hc hu).mono ?_
  rintro e w1 ⟨⟨x1, l1, m1, rfl⟩, u1, g1⟩
  have k1 := hc.grown hBc hB g1
  have s1 := Nat.le_trans hB g1.size
  go_wp2_with fail
  refine (byte_any B c a len cap w1 hBc k1 u1).mono ?_
  rintro e w2 ⟨⟨x2, l2, m2, rfl⟩, u2, g2⟩
  have k2 := k1.grown hBc s1 g2
  have s2 := Nat.le_trans s1 g2.size
  go_wp2_with fail
  refine (byte_any B c a len cap w2 hBc k2 u2).mono ?_
  rintro e w3 ⟨⟨x3, l3, m3, rfl⟩, u3, g3⟩
  have k3 := k2.grown hBc s2 g3
  have s3 := Nat.le_trans s2 g3.size
  go_wp2_with fail
  refine (byte_any B c a len cap w3 hBc k3 u3).mono ?_
  rintro e w4 ⟨⟨x4, l4, m4, rfl⟩, u4, g4⟩
  clear k1 k2 k3 s1 s2 s3 hc hu u1 u2 u3
  go_wp2
  go_ret
  have r1 := Int.emod_nonneg (x1 * 16777216 + x2 * 65536 + x3 * 256 + x4) (show n ≠ 0 by omega)
  have r2 := Int.emod_lt_of_pos (x1 * 16777216 + x2 * 65536 + x3 * 256 + x4) (show 0 < n by omega)
  exact ⟨⟨_, r1, by omega, rfl⟩, u4, grown_trans (grown_trans (grown_trans g1 g2) g3) g4⟩

end Go.Proofs.YtiehfobcbhgfkaaGreatDoor.draw

namespace Go.Proofs.YtiehfobcbhgfkaaGreatDoor.draw
set_option maxRecDepth 20000
open Go.RowKit
open kit

set_option maxHeartbeats 400000 in
theorem below_few (B c : Nat) (a : Option Addr) (len cap : Nat) (n : Int) (w : World) (hBc : B ≤ c) (hc : CodeAt w B a len) (hu : Cur w c a len cap) (h0 : 0 < n) (h1 : n ≤ 256) :
    Calls Tryz.prog 139 #[.pointer (some ⟨c, 0, none⟩), .int .i64 n] w (PostB c a len cap (n - 1) w) := by
  go_enter Tryz.func139, Tryz.ntmps139
  go_wp2_with fail
  refine (byte_any B c a len cap w hBc hc hu).mono ?_
  rintro e w1 ⟨⟨x1, l1, m1, rfl⟩, u1, g1⟩
  clear hc hu
  go_wp2
  go_ret
  have r1 := Int.emod_nonneg x1 (show n ≠ 0 by omega)
  have r2 := Int.emod_lt_of_pos x1 (show 0 < n by omega)
  exact ⟨⟨_, r1, by omega, rfl⟩, u1, g1⟩
theorem below_any (B c : Nat) (a : Option Addr) (len cap : Nat) (n : Int) (w : World) (hBc : B ≤ c) (hB : B ≤ w.heap.size) (hc : CodeAt w B a len) (hu : Cur w c a len cap) (h0 : 0 < n) (h1 : n ≤ 1000000000) :
    Calls Tryz.prog 139 #[.pointer (some ⟨c, 0, none⟩), .int .i64 n] w (PostB c a len cap (n - 1) w) := by
  by_cases h : n ≤ 256
  · exact below_few B c a len cap n w hBc hc hu h0 h
  · exact below_many B c a len cap n w hBc hB hc hu (by omega) h1

/-- a truth value; only the cursor is written -/
def PostT (c : Nat) (a : Option Addr) (len cap : Nat) (w : World) (e : Ending) (w' : World) : Prop :=
  (∃ b : Bool, e = .returned (.bool b)) ∧ Cur w' c a len cap ∧ w.grownBy w' (some c)
theorem once_any (B c : Nat) (a : Option Addr) (len cap : Nat) (n : Int) (w : World) (hBc : B ≤ c) (hB : B ≤ w.heap.size) (hc : CodeAt w B a len) (hu : Cur w c a len cap) (h0 : 0 < n) (h1 : n ≤ 1000000000) :
    Calls Tryz.prog 96 #[.pointer (some ⟨c, 0, none⟩), .int .i64 n] w (PostT c a len cap w) := by
  go_enter Tryz.func96, Tryz.ntmps96
  go_wp2_with fail
  refine (below_any B c a len cap n w hBc hB hc hu h0 h1).mono ?_
  rintro e w1 ⟨⟨x1, l1, m1, rfl⟩, u1, g1⟩
  clear hc hu
  go_wp2
  all_goals go_ret
  all_goals exact ⟨⟨_, rfl⟩, u1, g1⟩

/-- one of the listed values; only the cursor is written -/
def PostV (c : Nat) (a : Option Addr) (len cap : Nat) (l : List Value) (w : World) (e : Ending) (w' : World) : Prop :=
  (∃ v, v ∈ l ∧ e = .returned v) ∧ Cur w' c a len cap ∧ w.grownBy w' (some c)
theorem pickInt_any (B c g m k : Nat) (a : Option Addr) (len cap : Nat) (xs : List Int) (w : World) (hBc : B ≤ c) (hB : B ≤ w.heap.size) (hc : CodeAt w B a len) (hu : Cur w c a len cap)
    (hg : g < w.heap.size) (hne : g ≠ c) (hm : xs.length = m) (h0 : 0 < m) (h1 : m ≤ 1000) (hx : ∀ j, j < m → w.cell? ⟨g, j, none⟩ = (xs.map (Value.int .i64))[j]?) :
    Calls Tryz.prog 131 #[.pointer (some ⟨c, 0, none⟩), .slice (some ⟨g, 0, none⟩) m k] w (PostV c a len cap (xs.map (Value.int .i64)) w) := by
  have HX := Lib.hid hx
  have HM := Lib.hid hm
  clear hx hm
  go_enter Tryz.func131, Tryz.ntmps131
  go_wp2_with fail
  refine (below_any B c a len cap (m : Int) w hBc hB hc hu (by omega) (by omega)).mono ?_
  rintro e w1 ⟨⟨x1, l1, m1, rfl⟩, u1, g1⟩
  obtain ⟨j, rfl⟩ := Int.eq_ofNat_of_zero_le l1
  have hjm : j < m := by omega
  obtain ⟨y, hy⟩ : ∃ y, xs[j]? = some y := ⟨_, List.getElem?_eq_getElem (by rw [HM.out]; exact hjm)⟩
  have hcell : w1.cell? ⟨g, j, none⟩ = some (.int .i64 y) := by
    rw [World.cell?_of_block (w := w) (w' := w1) (a := ⟨g, j, none⟩) (g1.block g hg (fun e => hne (by injection e))), HX.out j hjm, List.getElem?_map, hy]
    rfl
  have HY := Lib.hid (show Value.int .i64 y ∈ xs.map (Value.int .i64) from List.mem_map.2 ⟨y, List.mem_of_getElem? hy, rfl⟩)
  have i0 : (0 : Int) ≤ (j : Int) := by omega
  have i1 : (j : Int) < (m : Int) := by omega
  clear hc hu hy m1
  go_wp2
  go_ret
  exact ⟨⟨_, HY.out, rfl⟩, u1, g1⟩

end Go.Proofs.YtiehfobcbhgfkaaGreatDoor.draw

namespace Go.Proofs.YtiehfobcbhgfkaaGreatDoor.draw
set_option maxRecDepth 20000
open Go.RowKit
open kit

theorem grown_below {a b c : World} {row : Option Nat} (h : a.grownBy b row) (k : Below a.heap.size b c) : a.grownBy c row :=
  ⟨k.os.trans h.os, k.tape.trans h.tape, k.output.trans h.output, Nat.le_trans h.size k.size, fun i hi hr => (k.block i hi).trans (h.block i hi hr)⟩

theorem pick_any (B c g m k : Nat) (a : Option Addr) (len cap : Nat) (xs : List ByteArray) (w : World) (hBc : B ≤ c) (hB : B ≤ w.heap.size) (hc : CodeAt w B a len) (hu : Cur w c a len cap)
    (hg : g < w.heap.size) (hne : g ≠ c) (hm : xs.length = m) (h0 : 0 < m) (h1 : m ≤ 1000) (hx : ∀ j, j < m → w.cell? ⟨g, j, none⟩ = (xs.map Value.string)[j]?) :
    Calls Tryz.prog 141 #[.pointer (some ⟨c, 0, none⟩), .slice (some ⟨g, 0, none⟩) m k] w (PostV c a len cap (xs.map Value.string) w) := by
  have HX := Lib.hid hx
  have HM := Lib.hid hm
  clear hx hm
  go_enter Tryz.func141, Tryz.ntmps141
  go_wp2_with fail
  refine (below_any B c a len cap (m : Int) w hBc hB hc hu (by omega) (by omega)).mono ?_
  rintro e w1 ⟨⟨x1, l1, m1, rfl⟩, u1, g1⟩
  obtain ⟨j, rfl⟩ := Int.eq_ofNat_of_zero_le l1
  have hjm : j < m := by omega
  obtain ⟨y, hy⟩ : ∃ y, xs[j]? = some y := ⟨_, List.getElem?_eq_getElem (by rw [HM.out]; exact hjm)⟩
  have hcell : w1.cell? ⟨g, j, none⟩ = some (.string y) := by
    rw [World.cell?_of_block (w := w) (w' := w1) (a := ⟨g, j, none⟩) (g1.block g hg (fun e => hne (by injection e))), HX.out j hjm, List.getElem?_map, hy]
    rfl
  have HY := Lib.hid (show Value.string y ∈ xs.map Value.string from List.mem_map.2 ⟨y, List.mem_of_getElem? hy, rfl⟩)
  have i0 : (0 : Int) ≤ (j : Int) := by omega
  have i1 : (j : Int) < (m : Int) := by omega
  clear hc hu hy m1
  go_wp2
  go_ret
  exact ⟨⟨_, HY.out, rfl⟩, u1, g1⟩

/-- a text of at most so many bytes -/
def PostS (c : Nat) (a : Option Addr) (len cap most : Nat) (w : World) (e : Ending) (w' : World) : Prop :=
  (∃ s : ByteArray, s.size ≤ most ∧ e = .returned (.string s)) ∧ Cur w' c a len cap ∧ w.grownBy w' (some c)

theorem Tryz.infoU8 : (Tryz.prog.info? 5).map (fun i => (i.zero, i.size, i.bytes)) = some (some (.int .u8 0), 1, 1) := by kernel_rfl

set_option maxHeartbeats 400000 in
set_option maxRecDepth 100000 in
theorem text_any (B c : Nat) (a : Option Addr) (len cap n : Nat) (w : World) (hBc : B ≤ c) (hcw : c < w.heap.size) (hc : CodeAt w B a len) (hu : Cur w c a len cap) (hn : n ≤ 5000) :
    Calls Tryz.prog 186 #[.pointer (some ⟨c, 0, none⟩), .int .i64 n] w (PostS c a len cap n w) := by
  obtain ⟨i0, hi, hz0, hz1, hz2⟩ := info_parts Tryz.infoU8
  go_enter Tryz.func186, Tryz.ntmps186
  go_wp2
  go_loopw [5, 6] (fun v i wr => ∃ (k : Nat) (xs : List Int), k ≤ n ∧ i = .int .i64 k ∧ wr.ownsRow w.heap.size 5 1 v k (xs.map (Value.int .u8)) ∧ Cur wr c a len cap ∧ CodeAt wr B a len ∧ w.grownBy wr (some c)) (fun _ i _ => n - (intOf i).toNat)
  case atStart => exact ⟨0, [], Nat.zero_le _, rfl, World.ownsRow_made _ _ _ (Nat.le_refl _) (by decide) rfl, hu.below ((Below.refl _ _).alloc (by omega) _), hc.below ((Below.refl _ _).alloc (by omega) _), World.grownBy_alloc _ _ _⟩
  case round =>
    obtain ⟨k, xs, hk, rfl, hown, hcur, hcode, hgr⟩ := hrel
    have hsz := hgr.size
    by_cases hlt : k < n
    · have hl : xs.length = k := by have := hown.1; simpa using this
      have HL := Lib.hid hl
      clear hl
      go_wp2_with (first | (go_at_call 181; refine (byte_any B c a len cap wr hBc hcode hcur).mono ?_; rintro e w2 ⟨⟨x, x0, x1, rfl⟩, u2, g2⟩; have own2 := hown.kept g2 (own_ne (own_base hown (by omega))); have sz2 := Nat.le_trans hsz g2.size; have code2 := hcode.grown hBc (by omega) g2) | (at_builtin; refine list_app2 (by rfl) (.tmp 15) (.tmp 19) 22 (by rfl) w.heap.size w2 5 i0 (.int .u8 0) 1 Tryz.underlying22 hi hz0 hz1 hz2 (by rfl) _ k _ own2 ?_ [.int .u8 x] 1 ?_ ?_ ?_ ?_ (by rfl) (by rfl) (by rfl) ?_ ?_; exact sz2; rfl; simp [Value.oneCell']; unfold maxLen; omega; omega; exact ⟨rfl, rfl, rfl⟩; intro v' w' hown' hb'))
      go_roundw
      case rel => exact ⟨k + 1, xs ++ [x], by omega, by go_num, by simpa using hown', u2.below (hb'.mono (by omega)), code2.below (hb'.mono (by omega)), grown_below (grown_trans hgr g2) hb'⟩
      case measure => simp [intOf]; omega
    · obtain rfl : k = n := by omega
      have hcv := conv_own Tryz.underlying22 Tryz.underlying5 hown
      have hl : (strOfNums xs).size ≤ k := by rw [strOfNums_size]; have := hown.1; simp at this; omega
      have HL := Lib.hid hl
      clear hl hcode
      go_wp2
      go_ret
      exact ⟨⟨_, HL.out, rfl⟩, hcur, hgr⟩

end Go.Proofs.YtiehfobcbhgfkaaGreatDoor.draw

namespace Go.Proofs.YtiehfobcbhgfkaaGreatDoor.draw
set_option maxRecDepth 20000
open Go.RowKit
open kit

end Go.Proofs.YtiehfobcbhgfkaaGreatDoor.draw
