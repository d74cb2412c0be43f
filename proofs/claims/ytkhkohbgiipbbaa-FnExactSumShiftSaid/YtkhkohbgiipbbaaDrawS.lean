/-
  Contracts of the draws of texts and of the sums' arguments: any number, a text of at most 5000 bytes.
-/
import Derived.Test.YtkhkohbgiipbbaaDrawB
namespace Go.Proofs.Ytkhkohbgiipbbaa.draw
open Go.RowKit
open kit

theorem grown_below {a b c : World} {row : Option Nat} (h : a.grownBy b row) (k : Below a.heap.size b c) : a.grownBy c row :=
  ⟨k.os.trans h.os, k.tape.trans h.tape, k.output.trans h.output, Nat.le_trans h.size k.size, fun i hi hr => (k.block i hi).trans (h.block i hi hr)⟩

theorem pick_any (B c g m k : Nat) (a : Option Addr) (len cap : Nat) (xs : List ByteArray) (w : World) (hBc : B ≤ c) (hB : B ≤ w.heap.size) (hc : CodeAt w B a len) (hu : Cur w c a len cap)
    (hg : g < w.heap.size) (hne : g ≠ c) (hm : xs.length = m) (h0 : 0 < m) (h1 : m ≤ 1000) (hx : ∀ j, j < m → w.cell? ⟨g, j, none⟩ = (xs.map Value.string)[j]?) :
    Calls Try.prog 39 #[.pointer (some ⟨c, 0, none⟩), .slice (some ⟨g, 0, none⟩) m k] w (PostV c a len cap (xs.map Value.string) w) := by
  have HX := Lib.hid hx
  have HM := Lib.hid hm
  clear hx hm
  go_enter Try.func39, Try.ntmps39
  go_wp2_with fail
  refine (below_any B c a len cap (m : Int) w hBc hB hc hu (by omega) (by omega)).mono ?_
  rintro e w1 ⟨⟨x1, l1, m1, rfl⟩, u1, g1⟩
  obtain ⟨j, rfl⟩ := Int.eq_ofNat_of_zero_le l1
  have hjm : j < m := by omega
  obtain ⟨y, hy⟩ : ∃ y, xs[j]? = some y := ⟨_, List.getElem?_eq_getElem (by rw [HM.out]; exact hjm)⟩
  have hcell : w1.cell? ⟨g, j, none⟩ = some (.string y) := by
    rw [World.cell?_of_block (w := w) (w' := w1) (a := ⟨g, j, none⟩) (g1.block g hg (fun e => hne (by injection e))), HX.out j hjm, List.getElem?_map, hy]
    rfl
  have HY := Lib.hid (show Value.string y ∈ xs.map Value.string from List.mem_map.2 ⟨y, List.mem_of_getElem? hy, rfl⟩)
  have i0 : (0 : Int) ≤ (j : Int) := by omega
  have i1 : (j : Int) < (m : Int) := by omega
  clear hc hu hy m1
  go_wp2
  go_ret
  exact ⟨⟨_, HY.out, rfl⟩, u1, g1⟩

/-- a text of at most so many bytes -/
def PostS (c : Nat) (a : Option Addr) (len cap most : Nat) (w : World) (e : Ending) (w' : World) : Prop :=
  (∃ s : ByteArray, s.size ≤ most ∧ e = .returned (.string s)) ∧ Cur w' c a len cap ∧ w.grownBy w' (some c)

theorem Try.infoU8 : (Try.prog.info? 5).map (fun i => (i.zero, i.size, i.bytes)) = some (some (.int .u8 0), 1, 1) := by kernel_rfl

set_option maxHeartbeats 400000 in
theorem text_any (B c : Nat) (a : Option Addr) (len cap n : Nat) (w : World) (hBc : B ≤ c) (hcw : c < w.heap.size) (hc : CodeAt w B a len) (hu : Cur w c a len cap) (hn : n ≤ 5000) :
    Calls Try.prog 40 #[.pointer (some ⟨c, 0, none⟩), .int .i64 n] w (PostS c a len cap n w) := by
  obtain ⟨i0, hi, hz0, hz1, hz2⟩ := info_parts Try.infoU8
  go_enter Try.func40, Try.ntmps40
  go_wp2
  go_loopw [5, 6] (fun v i wr => ∃ (k : Nat) (xs : List Int), k ≤ n ∧ i = .int .i64 k ∧ wr.ownsRow w.heap.size 5 1 v k (xs.map (Value.int .u8)) ∧ Cur wr c a len cap ∧ CodeAt wr B a len ∧ w.grownBy wr (some c)) (fun _ i _ => n - (intOf i).toNat)
  case atStart => exact ⟨0, [], Nat.zero_le _, rfl, World.ownsRow_made _ _ _ (Nat.le_refl _) (by decide) rfl, hu.below ((Below.refl _ _).alloc (by omega) _), hc.below ((Below.refl _ _).alloc (by omega) _), World.grownBy_alloc _ _ _⟩
  case round =>
    obtain ⟨k, xs, hk, rfl, hown, hcur, hcode, hgr⟩ := hrel
    have hsz := hgr.size
    by_cases hlt : k < n
    · have hl : xs.length = k := by have := hown.1; simpa using this
      have HL := Lib.hid hl
      clear hl
      go_wp2_with (first | (go_at_call 42; refine (byte_any B c a len cap wr hBc hcode hcur).mono ?_; rintro e w2 ⟨⟨x, x0, x1, rfl⟩, u2, g2⟩; have own2 := hown.kept g2 (own_ne (own_base hown (by omega))); have sz2 := Nat.le_trans hsz g2.size; have code2 := hcode.grown hBc (by omega) g2) | (at_builtin; refine list_app2 (by rfl) (.tmp 15) (.tmp 19) 22 (by rfl) w.heap.size w2 5 i0 (.int .u8 0) 1 Try.underlying22 hi hz0 hz1 hz2 (by rfl) _ k _ own2 ?_ [.int .u8 x] 1 ?_ ?_ ?_ ?_ (by rfl) (by rfl) (by rfl) ?_ ?_; exact sz2; rfl; simp [Value.oneCell']; unfold maxLen; omega; omega; exact ⟨rfl, rfl, rfl⟩; intro v' w' hown' hb'))
      go_roundw
      case rel => exact ⟨k + 1, xs ++ [x], by omega, by go_num, by simpa using hown', u2.below (hb'.mono (by omega)), code2.below (hb'.mono (by omega)), grown_below (grown_trans hgr g2) hb'⟩
      case measure => simp [intOf]; omega
    · obtain rfl : k = n := by omega
      have hcv := conv_own Try.underlying22 Try.underlying5 hown
      have hl : (strOfNums xs).size ≤ k := by rw [strOfNums_size]; have := hown.1; simp at this; omega
      have HL := Lib.hid hl
      clear hl hcode
      go_wp2
      go_ret
      exact ⟨⟨_, HL.out, rfl⟩, hcur, hgr⟩

/-- any number -/
def PostI (c : Nat) (a : Option Addr) (len cap : Nat) (w : World) (e : Ending) (w' : World) : Prop :=
  (∃ x : Int, e = .returned (.int .i64 x)) ∧ Cur w' c a len cap ∧ w.grownBy w' (some c)
theorem int_any (B c : Nat) (a : Option Addr) (len cap : Nat) (w : World) (hBc : B ≤ c) (hcw : c < w.heap.size) (hc : CodeAt w B a len) (hu : Cur w c a len cap) :
    Calls Try.prog 32 #[.pointer (some ⟨c, 0, none⟩)] w (PostI c a len cap w) := by
  go_enter Try.func32, Try.ntmps32
  go_wp2_with fail
  refine (below_any B c a len cap 1000000000 w hBc (by omega) hc hu (by omega) (by omega)).mono ?_
  rintro e w1 ⟨⟨x1, l1, m1, rfl⟩, u1, g1⟩
  have k1 := hc.grown hBc (by omega) g1
  have s1 := g1.size
  clear hc hu
  go_wp2_with fail
  refine (pickInt_any B c w1.heap.size 10 _ a len cap [0, 1, 255, 256, 4294967295, 4294967296, -1, 9223372036854775807, -9223372036854775808, x1] _ hBc (by simp; omega) (k1.below ((Below.refl _ _).alloc (by omega) _)) (u1.below ((Below.refl _ _).alloc (by omega) _)) (by simp) (by omega) rfl (by omega) (by omega) (fun j hj => ?_)).mono ?_
  · rw [cell_of_row _ w1.heap.size j _ 3 (0, 0) (heap_alloc_new w1 _)]
    rw [List.getElem?_toArray]
    rfl
  · rintro e w2 ⟨⟨v, hv, rfl⟩, u2, g2⟩
    obtain ⟨x, rfl⟩ : ∃ x, v = .int .i64 x := by
      obtain ⟨x, _, hx⟩ := List.mem_map.1 hv
      exact ⟨x, hx.symm⟩
    clear hv
    go_wp2
    go_ret
    exact ⟨⟨_, rfl⟩, u2, grown_trans (grown_trans g1 (World.grownBy_alloc _ _ _)) g2⟩

set_option maxHeartbeats 400000 in
theorem sumText_any (B c : Nat) (a : Option Addr) (len cap : Nat) (w : World) (hBc : B ≤ c) (hcw : c < w.heap.size) (hc : CodeAt w B a len) (hu : Cur w c a len cap) :
    Calls Try.prog 30 #[.pointer (some ⟨c, 0, none⟩)] w (PostS c a len cap 39 w) := by
  go_enter Try.func30, Try.ntmps30
  go_wp2_with fail
  refine (once_any B c a len cap 6 w hBc (by omega) hc hu (by omega) (by omega)).mono ?_
  rintro e w1 ⟨⟨b, rfl⟩, u1, g1⟩
  have k1 := hc.grown hBc (by omega) g1
  have s1 := g1.size
  clear hc hu
  cases b
  · go_wp2_with fail
    refine (below_any B c a len cap 40 w1 hBc (by omega) k1 u1 (by omega) (by omega)).mono ?_
    rintro e w2 ⟨⟨x, l2, m2, rfl⟩, u2, g2⟩
    have k2 := k1.grown hBc (by omega) g2
    have s2 := g2.size
    obtain ⟨n, rfl⟩ := Int.eq_ofNat_of_zero_le l2
    clear k1 u1
    go_wp2_with fail
    refine (text_any B c a len cap n w2 hBc (by omega) k2 u2 (by omega)).mono ?_
    rintro e w3 ⟨⟨s, hs, rfl⟩, u3, g3⟩
    clear k2 u2
    go_wp2
    go_ret
    exact ⟨⟨_, by omega, rfl⟩, u3, grown_trans (grown_trans g1 g2) g3⟩
  · go_wp2_with fail
    refine (pick_any B c w1.heap.size 5 _ a len cap [{ data := #[] }, { data := #[49, 50, 51, 52, 53, 54, 55, 56, 57] }, { data := #[97] }, { data := #[97, 98, 99] }, { data := #[0, 0, 0, 0] }] _ hBc (by simp; omega) (k1.below ((Below.refl _ _).alloc (by omega) _)) (u1.below ((Below.refl _ _).alloc (by omega) _)) (by simp) (by omega) rfl (by omega) (by omega) (fun j hj => ?_)).mono ?_
    · rw [cell_of_row _ w1.heap.size j _ 9 (0, 0) (heap_alloc_new w1 _)]
      rw [List.getElem?_toArray]
      rfl
    · rintro e w2 ⟨⟨v, hv, rfl⟩, u2, g2⟩
      obtain ⟨s, rfl, hs⟩ : ∃ s : ByteArray, v = .string s ∧ s.size ≤ 39 := by
        obtain ⟨s, hs, rfl⟩ := List.mem_map.1 hv
        refine ⟨s, rfl, ?_⟩
        simp only [List.mem_cons, List.not_mem_nil, or_false] at hs
        rcases hs with rfl | rfl | rfl | rfl | rfl <;> decide
      clear hv
      go_wp2
      go_ret
      exact ⟨⟨_, hs, rfl⟩, u2, grown_trans (grown_trans g1 (World.grownBy_alloc _ _ _)) g2⟩

/-- a text of at most 39 bytes -/
def PostOf (w : World) (e : Ending) (w' : World) : Prop := (∃ s : ByteArray, s.size ≤ 39 ∧ e = .returned (.string s)) ∧ Below w.heap.size w w'
theorem below_of (w w1 w2 : World) (b1 : Below w.heap.size w w1) (g : w1.grownBy w2 (some w.heap.size)) : Below w.heap.size w w2 :=
  b1.grown g b1.size (fun k hk => by injection hk with hk; omega)
theorem sumOf_any (a : Option Addr) (len cap : Nat) (w : World) (hc : CodeAt w w.heap.size a len) :
    Calls Try.prog 13 #[.slice a len cap] w (PostOf w) := by
  go_enter Try.func13, Try.ntmps13
  go_wp2_with fail
  refine (new_any w.heap.size a len cap w (Nat.le_refl _) hc).mono ?_
  rintro e w1 ⟨rfl, u1, b1, sz1⟩
  have code1 := hc.below b1
  have hs1 : w.heap.size < w1.heap.size := by omega
  clear sz1 hc
  go_wp2_with fail
  refine (sumText_any w.heap.size w.heap.size a len cap w1 (Nat.le_refl _) hs1 code1 u1).mono ?_
  rintro e w2 ⟨⟨s, hs, rfl⟩, u2, g2⟩
  clear code1 u1
  go_wp2
  go_ret
  exact ⟨⟨s, hs, rfl⟩, below_of w w1 w2 b1 g2⟩
/-- a number, and such a text -/
def PostMore (w : World) (e : Ending) (w' : World) : Prop := (∃ (x : Int) (s : ByteArray), s.size ≤ 39 ∧ e = .returned (.tuple #[.int .i64 x, .string s])) ∧ Below w.heap.size w w'
theorem sumMore_any (a : Option Addr) (len cap : Nat) (w : World) (hc : CodeAt w w.heap.size a len) :
    Calls Try.prog 14 #[.slice a len cap] w (PostMore w) := by
  go_enter Try.func14, Try.ntmps14
  go_wp2_with fail
  refine (new_any w.heap.size a len cap w (Nat.le_refl _) hc).mono ?_
  rintro e w1 ⟨rfl, u1, b1, sz1⟩
  have code1 := hc.below b1
  have hs1 : w.heap.size < w1.heap.size := by omega
  clear sz1 hc
  go_wp2_with fail
  refine (int_any w.heap.size w.heap.size a len cap w1 (Nat.le_refl _) hs1 code1 u1).mono ?_
  rintro e w2 ⟨⟨x, rfl⟩, u2, g2⟩
  have code2 := code1.grown (Nat.le_refl _) (by omega) g2
  have hs2 : w.heap.size < w2.heap.size := Nat.lt_of_lt_of_le hs1 g2.size
  clear code1 u1
  go_wp2_with fail
  refine (sumText_any w.heap.size w.heap.size a len cap w2 (Nat.le_refl _) hs2 code2 u2).mono ?_
  rintro e w3 ⟨⟨s, hs, rfl⟩, u3, g3⟩
  clear code2 u2
  go_wp2
  go_ret2
  exact ⟨⟨x, s, hs, rfl⟩, below_of w w1 w3 b1 (grown_trans g2 g3)⟩

end Go.Proofs.Ytkhkohbgiipbbaa.draw
