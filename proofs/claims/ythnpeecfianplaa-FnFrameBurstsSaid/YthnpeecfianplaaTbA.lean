/-
  Contract of spec.TurnBits.
-/
import Derived.Test.YthnpeecfianplaaBurst
import Derived.Test.YthnpeecfianplaaNumC
import Derived.Test.YthnpeecfianplaaSumB
import Derived.Laws.IdiomStrings
import Derived.Lib.BufferMore
namespace Go.Proofs.Ythnpeecfianplaa.burst
open Go.RowKit
open kit sum num

/-! ### plain facts -/
/-- the lowest 32 bits, bit by bit -/
theorem low_bit (x : Int) (i : Nat) (hi : i < 32) : x / 2 ^ i % 2 = 1 ↔ (low x).testBit i = true := by
  obtain ⟨k, hk⟩ : ∃ k, 32 = i + (k + 1) := ⟨31 - i, by omega⟩
  have hp : (0 : Int) < 2 ^ i := Int.pow_pos (by decide)
  have h32 : (4294967296 : Int) = 2 ^ i * (2 * 2 ^ k) := by
    have h1 : (4294967296 : Int) = 2 ^ 32 := by decide
    rw [h1, hk, Int.pow_add, Int.pow_succ]
    rw [Int.mul_comm (2 ^ k) 2]
  have hx : x = x % 4294967296 + 2 ^ i * (2 * (2 ^ k * (x / 4294967296))) := by
    have h1 := Int.emod_add_mul_ediv x 4294967296
    rw [h32, Int.mul_assoc, Int.mul_assoc, ← h32] at h1
    exact h1.symm
  have h1 : x / 2 ^ i % 2 = (x % 4294967296) / 2 ^ i % 2 := by
    conv => lhs; rw [hx]
    rw [Int.add_mul_ediv_left _ _ (by omega), Int.add_mul_emod_self_left]
  rw [h1, low_eq, Nat.testBit_eq_decide_div_mod_eq, decide_eq_true_iff]
  have e : ((low x : Nat) : Int) / 2 ^ i = ((low x / 2 ^ i : Nat) : Int) := by push_cast; rfl
  rw [e]
  omega
theorem shl_one (t : Nat) (h : t < 8) : Op.shift .shl .u8 1 .u64 (t : Int) = pure (.int .u8 ((2 ^ t : Nat) : Int)) := by
  rw [shift_shl .u8 .u64 1 (t : Int) (by omega) (by show _ ≤ (8 : Int); omega), Int.toNat_natCast]
  have h2 : 2 ^ t < 256 := by
    have := Nat.pow_lt_pow_right (show 1 < 2 by omega) h
    have e : (2 : Nat) ^ 8 = 256 := by decide
    omega
  have e : (1 : Int) * 2 ^ t = ((2 ^ t : Nat) : Int) := by rw [Int.one_mul]; push_cast; rfl
  have e2 : IntKind.u8.wrap ((2 ^ t : Nat) : Int) = ((2 ^ t : Nat) : Int) := by
    obtain ⟨q, hq⟩ : ∃ q, 2 ^ t = q := ⟨_, rfl⟩
    rw [hq] at h2 ⊢
    rw [IntKind.wrap_u8]
    omega
  rw [e, e2]
theorem pow_byte (t : Nat) (h : t < 8) : 2 ^ t < 256 := by
  have := Nat.pow_lt_pow_right (show 1 < 2 by omega) h
  have e : (2 : Nat) ^ 8 = 256 := by decide
  omega

/-- a row of bytes in block b, whatever is behind -/
def Rw (w : World) (b : Nat) (xs : List Nat) : Prop :=
  ∃ (C : Array Value) (k : Nat), w.heap[b]? = some (.cells C 5 (k, k + 1)) ∧ xs.length ≤ k ∧ xs.length ≤ C.size ∧ ∀ (j x : Nat), xs[j]? = some x → C[j]? = some (Value.int .u8 (x : Int))
theorem Rw.lt {w : World} {b : Nat} {xs : List Nat} (h : Rw w b xs) : b < w.heap.size := by
  obtain ⟨C, k, h1, _⟩ := h
  exact (Array.getElem?_eq_some_iff.1 h1).1
theorem Rw.cell {w : World} {b j x : Nat} {xs : List Nat} (h : Rw w b xs) (hx : xs[j]? = some x) : w.cell? ⟨b, j, none⟩ = some (.int .u8 (x : Int)) := by
  obtain ⟨C, k, h1, _, _, h4⟩ := h
  rw [cell_of_row w b j C 5 _ h1]
  exact h4 j x hx
theorem Rw.frozen {w : World} {b j : Nat} {xs : List Nat} (h : Rw w b xs) (hj : j < xs.length) : w.frozen? ⟨b, j, none⟩ = false := by
  obtain ⟨C, k, h1, h2, _⟩ := h
  unfold World.frozen?
  rw [h1]
  simp
  omega
theorem Rw.set {w : World} {b j x : Nat} {xs : List Nat} (h : Rw w b xs) (hj : j < xs.length) : Rw (w.setCell ⟨b, j, none⟩ (.int .u8 (x : Int))) b (xs.set j x) := by
  obtain ⟨C, k, h1, h2, h3, h4⟩ := h
  refine ⟨C.setIfInBounds j (.int .u8 (x : Int)), k, Go.Lib.heap_setCell_same h1 _, by rw [List.length_set]; exact h2, by rw [List.length_set, Array.size_setIfInBounds]; exact h3, fun i y hy => ?_⟩
  rw [Array.getElem?_setIfInBounds]
  rw [List.getElem?_set] at hy
  by_cases e : j = i
  · rw [if_pos e] at hy ⊢
    rw [if_pos hj] at hy
    rw [if_pos (by omega)]
    obtain rfl : x = y := by simpa using hy
    rfl
  · rw [if_neg e] at hy ⊢
    exact h4 i y hy
theorem Rw.new (w : World) (s : ByteArray) (cap : Nat) : Rw (w.drew.alloc (.cells (bytesRow s cap) 5 ((bytesRow s cap).size, (bytesRow s cap).size + 1))) w.heap.size (nats s 0) := by
  have hl : (nats s 0).length = s.size := by rw [nats_length]; omega
  have hs : s.size ≤ (bytesRow s cap).size := by
    unfold bytesRow
    rw [Array.size_append, Array.size_map]
    show s.data.size ≤ _
    omega
  refine ⟨_, _, ?_, by rw [hl]; exact hs, by rw [hl]; exact hs, fun j x hx => ?_⟩
  · show (w.heap.push _)[w.heap.size]? = _
    simp
  · have hj : j < s.size := by have := (List.getElem?_eq_some_iff.1 hx).1; omega
    have h2 := nats_get s 0 j (by omega)
    rw [h2] at hx
    unfold bytesRow
    rw [Array.getElem?_append_left (by rw [Array.size_map]; exact hj), Array.getElem?_map, Array.getElem?_eq_getElem (by exact hj)]
    simp only [Option.some.injEq] at hx
    rw [← hx]
    simp only [Nat.zero_add]
    rfl

/-- what is answered -/
def turnI (b : ByteArray) (at_ bits : Int) : ByteArray := if at_ < 0 then b else turn b at_.toNat (low bits)

theorem bur_stay {n a m z : Nat} (h : ¬ (m.testBit z = true ∧ a + z < 8 * n)) : bur n a (m % 2 ^ (z + 1)) = bur n a (m % 2 ^ z) := by
  rw [bur_next, if_neg h, Nat.xor_zero]
theorem bur_turn {n a m z : Nat} (h1 : m.testBit z = true) (h2 : a + z < 8 * n) : bur n a (m % 2 ^ (z + 1)) = bur n a (m % 2 ^ z) ^^^ 2 ^ (a + z) := by
  rw [bur_next, if_pos ⟨h1, h2⟩]

set_option maxHeartbeats 2000000 in
set_option maxRecDepth 20000 in
theorem specTurn_in (b : ByteArray) (a : Nat) (bt : Int) (w : World) (hs : b.size ≤ 1048576) (ha : a ≤ 9223372036854775807) :
    Calls Try.prog 21 #[.string b, .int .i64 (a : Int), .int .i64 bt] w fun e w' => e = .returned (.string (turn b a (low bt))) ∧ Below w.heap.size w w' := by
  have kc := fun (w : World) => run_bytes_of_string (P := Try.prog) w 9 22 5 b Try.underlying9 Try.underlying22 Try.underlying5
  have HN := Lib.hid (Rw.new w b (grownCap w b.size 0 5))
  have HLB := Lib.hid (fun z h => low_bit bt z h)
  have hl0 : (nats b 0).length = b.size := by rw [nats_length]; omega
  have HL0 := Lib.hid hl0
  have HBY := Lib.hid (nats_byte b 0)
  have HML := Lib.hid (Nat.mod_eq_of_lt (low_lt bt))
  have HTT := Lib.hid (show turn b a (low bt) = txt (fb b.size (val (nats b 0) ^^^ bur b.size a (low bt))) from rfl)
  clear hl0
  obtain ⟨L, hL⟩ : ∃ L, low bt = L := ⟨_, rfl⟩
  rw [hL] at HLB HML HTT ⊢
  clear hL
  obtain ⟨T, hT⟩ : ∃ T, turn b a L = T := ⟨_, rfl⟩
  rw [hT] at HTT ⊢
  clear hT
  go_enter Try.func21, Try.ntmps21
  go_wp2
  clear kc
  obtain ⟨c, hc⟩ : ∃ c, grownCap w b.size 0 5 = c := ⟨_, rfl⟩
  rw [hc] at HN ⊢
  obtain ⟨W, hW⟩ : ∃ W, W = (w.alloc (.cells (bytesRow b c) 5 ((bytesRow b c).size, (bytesRow b c).size + 1))).drew := ⟨_, rfl⟩
  rw [← hW]
  have HN := Lib.hid (show Rw W w.heap.size (nats b 0) by rw [hW]; exact HN.out)
  have HB := Lib.hid (show Below w.heap.size w W by rw [hW]; exact ((Below.refl _ _).alloc (Nat.le_refl _) _).drew)
  clear hW hc
  go_loopw [8, 9] (fun i _ wr => ∃ (z : Nat) (xs : List Nat), z ≤ 32 ∧ i = .int .i64 z ∧ xs.length = b.size ∧ Hid (∀ x ∈ xs, x < 256) ∧ Hid (val xs = val (nats b 0) ^^^ bur b.size a (L % 2 ^ z)) ∧ Hid (Rw wr w.heap.size xs) ∧ Hid (Below w.heap.size w wr)) (fun i _ _ => 32 - (intOf i).toNat)
  case atStart => exact ⟨0, _, by omega, rfl, HL0.out, HBY, Lib.hid (by rw [bur_zero, Nat.xor_zero]), HN, HB⟩
  case round =>
    obtain ⟨z, xs, hz, rfl, hxl, hby, hv, hrw, hb⟩ := hrel
    by_cases hlt : z < 32
    · have hsh := shift_shr .i64 .u64 bt (z : Int) (by omega) (by show _ ≤ (64 : Int); omega)
      rw [Int.toNat_natCast] at hsh
      have hbit := HLB.out z hlt
      obtain ⟨y, hy⟩ : ∃ y, bt / 2 ^ z = y := ⟨_, rfl⟩
      rw [hy] at hsh hbit
      have h1 := and1 y
      have hz64 : IntKind.u64.wrap (z : Int) = (z : Int) := by rw [IntKind.wrap_u64]; omega
      have HBT := Lib.hid hbit
      by_cases hodd : y % 2 = 1
      · have ho : (y % 2 == 1) = true := by rw [beq_iff_eq]; exact hodd
        have HT := Lib.hid (hbit.1 hodd)
        by_cases hin : a + z < 8 * b.size
        · have g1 : (a : Int) < 8 * (b.size : Int) - (z : Int) := by omega
          have HV := Lib.hid (bur_turn HT.out hin)
          have hk : (a + z) / 8 < xs.length := by rw [hxl]; omega
          obtain ⟨x, hx⟩ : ∃ x, xs[(a + z) / 8]? = some x := ⟨_, List.getElem?_eq_getElem hk⟩
          have hx256 := hby.out x (List.mem_of_getElem? hx)
          have ht8 : (a + z) % 8 < 8 := by omega
          have HVS := Lib.hid (val_set xs ((a + z) / 8) x ((a + z) % 8) hby.out hx ht8)
          have HBS := Lib.hid (set_byte (k := (a + z) / 8) hby.out hx256 ht8)
          rw [show 8 * ((a + z) / 8) + (a + z) % 8 = a + z by omega] at HVS
          have hcell := hrw.out.cell hx
          have hfrz := hrw.out.frozen hk
          have hse := shl_one ((a + z) % 8) ht8
          have hpb := pow_byte ((a + z) % 8) ht8
          obtain ⟨t, ht⟩ : ∃ t, (a + z) % 8 = t := ⟨_, rfl⟩
          rw [ht] at hse hpb ht8 HVS HBS
          have hti : ((a : Int) + (z : Int)) % 8 = (t : Int) := by omega
          have htu : IntKind.u64.wrap (t : Int) = (t : Int) := by rw [IntKind.wrap_u64]; omega
          obtain ⟨e, he⟩ : ∃ e, 2 ^ t = e := ⟨_, rfl⟩
          rw [he] at hse hpb HVS HBS
          have h2t : (2 : Int) ^ t % 256 = (e : Int) := by
            rw [show (2 : Int) ^ t = ((2 ^ t : Nat) : Int) by push_cast; rfl, he]
            omega
          have hxr := xor_u8 x e hx256 hpb
          obtain ⟨r, hr⟩ : ∃ r, x ^^^ e = r := ⟨_, rfl⟩
          rw [hr] at hxr HVS HBS
          have HRW := Lib.hid (hrw.out.set (x := r) hk)
          have HK := Lib.hid hk
          have HX := Lib.hid hx
          clear hbit hx hr he ht hx256 hk
          go_wp2
          go_roundw
          case rel => exact ⟨z + 1, xs.set ((a + z) / 8) r, by omega, by go_num, by rw [List.length_set]; exact hxl, HBS, Lib.hid (by rw [HVS.out, HV.out, hv.out, Nat.xor_assoc]), HRW, Lib.hid (hb.out.setCell (Nat.le_refl _) _)⟩
          case measure => simp [intOf]; omega
        · have g1 : ¬ (a : Int) < 8 * (b.size : Int) - (z : Int) := by omega
          have HV := Lib.hid (show bur b.size a (L % 2 ^ (z + 1)) = bur b.size a (L % 2 ^ z) from bur_stay fun h => hin h.2)
          clear hbit hin
          go_wp2
          go_roundw
          case rel => exact ⟨z + 1, xs, by omega, by go_num, hxl, hby, Lib.hid (by rw [HV.out]; exact hv.out), hrw, hb⟩
          case measure => simp [intOf]; omega
      · have ho : (y % 2 == 1) = false := by rw [beq_eq_false_iff_ne]; exact hodd
        have HV := Lib.hid (show bur b.size a (L % 2 ^ (z + 1)) = bur b.size a (L % 2 ^ z) from bur_stay fun h => hodd (hbit.2 h.1))
        clear hbit
        go_wp2
        go_roundw
        case rel => exact ⟨z + 1, xs, by omega, by go_num, hxl, hby, Lib.hid (by rw [HV.out]; exact hv.out), hrw, hb⟩
        case measure => simp [intOf]; omega
    · obtain rfl : z = 32 := by omega
      have HXS := Lib.hid (show txt xs = T by
        rw [HTT.out]
        have h := hv.out
        rw [show (2 : Nat) ^ 32 = 4294967296 from rfl, HML.out] at h
        rw [← h, ← hxl, fb_val xs hby.out])
      have hcv := run_convert_bytes_arg (P := Try.prog) wr 22 5 Try.underlying22 Try.underlying5 w.heap.size 0 b.size c (xs.map fun (c : Nat) => (c : Int)) (by rw [List.length_map]; exact hxl) (fun i hi => by
        have hi2 : i < xs.length := by omega
        rw [Nat.zero_add, hrw.out.cell (List.getElem?_eq_getElem hi2)]
        simp [List.getD, List.getElem?_eq_getElem hi2])
      rw [txt_nums, HXS.out] at hcv
      go_wp2
      go_ret
      exact ⟨rfl, hb.out⟩

end Go.Proofs.Ythnpeecfianplaa.burst
